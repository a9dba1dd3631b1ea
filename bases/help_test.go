package bases_test

import (
	"fmt"
	"math"
	"slices"
	"strings"
	"testing"

	"pollard/api"
	"pollard/bases"
	"pollard/walk"
)

// idOf is an id that is easy to read; it is not the sum of anything, and lines do not ask for that.
func idOf(name string) string {
	return name + strings.Repeat(".", api.IDBytes-len(name))
}

// idsOf is the ids of names with spaces between.
func idsOf(names string) []string {
	var l []string
	for _, name := range strings.Fields(names) {
		l = append(l, idOf(name))
	}
	return l
}

// nameOf is the name of an id, for messages.
func nameOf(id string) string { return strings.TrimRight(id, ".") }

// namesOf is the names of ids, with spaces between.
func namesOf(ids []string) string {
	var l []string
	for _, id := range ids {
		l = append(l, nameOf(id))
	}
	return strings.Join(l, " ")
}

// rawOf is the bytes of an object by the word of its kind, whatever that is.
func rawOf(word, body string) string { return fmt.Sprintf("%s %d\x00%s", word, len(body), body) }

// commit is the bytes of a commit, by its time and the names of its parents.
func commit(time uint64, parents string) string {
	var body strings.Builder
	fmt.Fprintf(&body, "tree %x\n", idOf("tree"))
	for _, id := range idsOf(parents) {
		fmt.Fprintf(&body, "parent %x\n", id)
	}
	fmt.Fprintf(&body, "author Ann\ntime %d\n\nwhy", time)
	return rawOf("commit", body.String())
}

// store is objects' bytes by the names of their ids, whatever these are.
type store map[string]string

// get is a getter of what is in a store.
func (s store) get(id string) (string, api.Errno) {
	raw, is := s[nameOf(id)]
	if !is {
		return "", api.ErrGone
	}
	return raw, api.OK
}

// noted is a getter that writes down the ids it is asked for.
func (s store) noted(l *[]string) walk.Getter {
	return func(id string) (string, api.Errno) {
		*l = append(*l, id)
		return s.get(id)
	}
}

// storeOf is commits by a text such as "a, b 2: a, c: a b": names, times if they are not 0, and parents.
func storeOf(text string) store {
	s := store{}
	for x := range strings.SplitSeq(text, ", ") {
		told, parents, _ := strings.Cut(x, ":")
		name, time := told, uint64(0)
		fmt.Sscan(told, &name, &time)
		s[name] = commit(time, parents)
	}
	return s
}

// chainOf is n commits, each the parent of the next one; their names are numbers from 1 on.
func chainOf(n int) store {
	s := store{"1": commit(1, "")}
	for i := 2; i <= n; i++ {
		s[fmt.Sprint(i)] = commit(uint64(i), fmt.Sprint(i-1))
	}
	return s
}

// someErrors are errors that a getter may tell, such as no layer knows among them.
func someErrors() []api.Errno {
	return []api.Errno{api.ErrAsk, api.ErrGone, api.ErrMuch, api.ErrEnd, api.ErrRest, api.ErrBad, api.ErrStill, api.ErrPath, api.ErrDir, api.ErrThere, api.ErrFull, api.ErrKind, api.ErrSpoilt, api.ErrChain, 1000, -1, math.MinInt, math.MaxInt}
}

// noObjects are texts that are no objects' bytes, each with the error of object.Open.
func noObjects() map[string]api.Errno {
	return map[string]api.Errno{
		"":                      api.ErrBad,
		"commit":                api.ErrBad,
		"commit 0":              api.ErrBad,
		"commit\x000 ":          api.ErrBad,
		"what 0\x00":            api.ErrKind,
		"Commit 0\x00":          api.ErrKind,
		"commits 0\x00":         api.ErrKind,
		"commit \x00":           api.ErrBad,
		"commit 00\x00":         api.ErrBad,
		"commit -1\x00":         api.ErrBad,
		"tag 0x\x00":            api.ErrBad,
		"commit 9\x00":          api.ErrEnd,
		"blob 1\x00":            api.ErrEnd,
		"commit 0\x00x":         api.ErrRest,
		"tag 1\x00xx":           api.ErrRest,
		"commit 262145\x00":     api.ErrMuch,
		"commit 9999999999\x00": api.ErrMuch,
		commit(7, "")[1:]:       api.ErrKind,
		commit(7, "") + "x":     api.ErrRest,
	}
}

// noCommits are the bytes of objects of other kinds; what they have in their bodies is that of a commit, too.
func noCommits() []string {
	_, body, _ := strings.Cut(commit(7, ""), "\x00")
	entry := "file a\x00" + idOf("a")
	tag := fmt.Sprintf("object %x\nkind commit\nname v-1\n\nhere", idOf("a"))
	return []string{
		rawOf("blob", ""), rawOf("blob", "x"), rawOf("blob", body), rawOf("blob", commit(7, "")),
		rawOf("tree", ""), rawOf("tree", "x"), rawOf("tree", body), rawOf("tree", entry),
		rawOf("tag", ""), rawOf("tag", "x"), rawOf("tag", body), rawOf("tag", tag),
	}
}

// noBodies are bytes of commits' objects that object.GetCommit does not take, each with its error.
func noBodies() map[string]api.Errno {
	id := fmt.Sprintf("%x", idOf("a"))
	return map[string]api.Errno{
		rawOf("commit", ""):              api.ErrBad,
		rawOf("commit", "x"):             api.ErrBad,
		rawOf("commit", "tree "+id+"\n"): api.ErrBad,
		rawOf("commit", "tree "+id[2:]+"\nauthor Ann\ntime 7\n\nwhy"):     api.ErrBad,
		rawOf("commit", "tree "+id+"\nauthor Ann\ntime 07\n\nwhy"):        api.ErrBad,
		rawOf("commit", "tree "+id+"\nauthor ..\ntime 7\n\nwhy"):          api.ErrBad,
		rawOf("commit", "tree "+id+"\nauthor Ann\ntime 7\n\n\xff"):        api.ErrBad,
		rawOf("commit", strings.Repeat("a", api.MostBody)):                api.ErrBad,
		rawOf("commit", strings.SplitAfterN(commit(7, ""), "\x00", 2)[0]): api.ErrBad,
		commit(7, "b b"):         api.ErrBad,
		commit(7, "b c d e f"):   api.ErrMuch,
		commit(7, "b b b b b b"): api.ErrMuch,
	}
}

// wrongOnes are all bytes of which no commit comes, each with the error.
func wrongOnes() map[string]api.Errno {
	all := noObjects()
	for raw, e := range noBodies() {
		all[raw] = e
	}
	for _, raw := range noCommits() {
		all[raw] = api.ErrKind
	}
	return all
}

// noGetters are functions that tell nothing.
func noGetters() map[string]walk.Getter {
	return map[string]walk.Getter{
		"nil":               nil,
		"panics":            func(id string) (string, api.Errno) { panic(id) },
		"panics of its own": func(id string) (string, api.Errno) { var none []int; return string(rune(none[len(id)])), api.OK },
		"panics with nil":   func(id string) (string, api.Errno) { panic(error(nil)) },
	}
}

// wantIDs holds an answer of ids against the ids of some names.
func wantIDs(t *testing.T, what string, ids []string, e api.Errno, names string) {
	t.Helper()
	if e != api.OK || !slices.Equal(ids, idsOf(names)) {
		t.Errorf("%.80q: %.80q, error %d; want %.80q", what, namesOf(ids), e, names)
	}
}

// wantLine asks for a line: just these ids, and that each of them and no other one is in it by Behind.
func wantLine(t *testing.T, s store, id, names string) {
	t.Helper()
	ids, e := bases.Line(s.get, idOf(id))
	wantIDs(t, "line of "+id, ids, e, names)
	for old := range s {
		want := slices.Contains(idsOf(names), idOf(old))
		if is, e := bases.Behind(s.get, idOf(old), idOf(id)); is != want || e != api.OK {
			t.Errorf("whether %q is in the line of %q: %v, %d; want %v", old, id, is, e, want)
		}
	}
}

// wantBest asks for what is best of two, both ways.
func wantBest(t *testing.T, s store, a, b, names string) {
	t.Helper()
	ids, e := bases.Best(s.get, idOf(a), idOf(b))
	wantIDs(t, "best of "+a+" and "+b, ids, e, names)
	ids, e = bases.Best(s.get, idOf(b), idOf(a))
	wantIDs(t, "best of "+b+" and "+a, ids, e, names)
}

// wantLog asks for a log.
func wantLog(t *testing.T, s store, id, names string) {
	t.Helper()
	ids, e := bases.Log(s.get, idOf(id))
	wantIDs(t, "log of "+id, ids, e, names)
}

// wantNone asks all calls that go through the line of an id for nothing but an error.
func wantNone(t *testing.T, what string, get walk.Getter, id string, want api.Errno) {
	t.Helper()
	if ids, e := bases.Line(get, id); len(ids) != 0 || e != want {
		t.Errorf("Line, %.80q: %.80q, error %d; want %d", what, namesOf(ids), e, want)
	}
	if ids, e := bases.Log(get, id); len(ids) != 0 || e != want {
		t.Errorf("Log, %.80q: %.80q, error %d; want %d", what, namesOf(ids), e, want)
	}
	if ids, e := bases.Best(get, id, id); len(ids) != 0 || e != want {
		t.Errorf("Best, %.80q: %.80q, error %d; want %d", what, namesOf(ids), e, want)
	}
	for _, old := range []string{id, "", idOf("gone"), idOf("a")} {
		if is, e := bases.Behind(get, old, id); is || e != want {
			t.Errorf("Behind, %.80q, old %.40q: %v, error %d; want %d", what, old, is, e, want)
		}
	}
}
