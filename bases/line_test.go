package bases_test

import (
	"fmt"
	"slices"
	"strings"
	"testing"

	"pollard/api"
	"pollard/bases"
	"pollard/object"
)

// Promise 17.1, Line and Behind: one alone, chains, several parents, two ways to one commit; ids rise, each once; a commit is in its own line.
func TestLine(t *testing.T) {
	s := storeOf("z, y: z, b: z, a: y b, c: a z b y, r2, r1: r2, m: c r1, lone")
	for id, names := range map[string]string{
		"z":    "z",
		"y":    "y z",
		"b":    "b z",
		"a":    "a b y z",
		"c":    "a b c y z",
		"r1":   "r1 r2",
		"m":    "a b c m r1 r2 y z",
		"lone": "lone",
	} {
		wantLine(t, s, id, names)
	}
	s = storeOf("9, 8: 9, 7: 8, 6: 7, 5: 6, 4: 5, 3: 4, 2: 3 9, 1: 2 4 7")
	wantLine(t, s, "1", "1 2 3 4 5 6 7 8 9")
	wantLine(t, s, "4", "4 5 6 7 8 9")
}

// Promise 17.1, Line: ids rise byte by byte, and not as runes or numbers.
func TestLineRises(t *testing.T) {
	names := []string{"\x00", "\x7f", "\x80", "\xff", "\xff\xff", "ä", "A", "a", "10", "9", "\xed\xa0\x80"}
	s := store{}
	for i, name := range names {
		s[name] = commit(uint64(i), strings.Join(names[max(0, i-3):i], " "))
	}
	last := names[len(names)-1]
	slices.Sort(names)
	wantLine(t, s, last, strings.Join(names, " "))
}

// Promise 17.1, Line: a line of which many ways lead to each commit is gone through but once.
func TestLineTwoWays(t *testing.T) {
	s := store{"a0": commit(0, ""), "b0": commit(0, "")}
	const n = 300
	var names []string
	for i := range n + 1 {
		a, b := fmt.Sprint("a", i), fmt.Sprint("b", i)
		if i > 0 {
			parents := fmt.Sprintf("a%d b%d", i-1, i-1)
			s[a], s[b] = commit(0, parents), commit(0, parents)
		}
		names = append(names, a, b)
	}
	names = slices.DeleteFunc(names, func(name string) bool { return name == fmt.Sprint("b", n) })
	ids := idsOf(strings.Join(names, " "))
	slices.Sort(ids)
	var asked []string
	got, e := bases.Line(s.noted(&asked), idOf(fmt.Sprint("a", n)))
	wantIDs(t, "many ways", got, e, namesOf(ids))
	slices.Sort(asked)
	if !slices.Equal(asked, ids) {
		t.Errorf("asked for %d ids, of %d", len(asked), len(ids))
	}
	if l, e := bases.Log(s.get, idOf(fmt.Sprint("a", n))); len(l) != len(ids) || e != api.OK {
		t.Errorf("the log has %d ids, error %d; want %d", len(l), e, len(ids))
	}
	wantBest(t, s, fmt.Sprint("a", n), fmt.Sprint("b", n), fmt.Sprintf("a%d b%d", n-1, n-1))
}

// Promise 17.1, Line, Behind, Best and Log: an error of Commit, of the commit itself, and of each one in its line, wherever it is.
func TestLineErrors(t *testing.T) {
	const all = "e, d: e, c: e, b: c d, a: b e"
	for _, name := range []string{"a", "b", "c", "d", "e"} {
		s := storeOf(all)
		delete(s, name)
		wantNone(t, "without "+name, s.get, idOf("a"), api.ErrGone)
		for raw, want := range wrongOnes() {
			s[name] = raw
			wantNone(t, name+" is "+raw, s.get, idOf("a"), want)
		}
		for _, err := range someErrors() {
			get := func(id string) (string, api.Errno) {
				if id == idOf(name) {
					return commit(7, ""), err
				}
				return s.get(id)
			}
			wantNone(t, name, get, idOf("a"), err)
		}
	}
	for what, get := range noGetters() {
		wantNone(t, what, get, idOf("a"), api.ErrGone)
		wantNone(t, what, get, "", api.ErrGone)
		s := storeOf(all)
		late := func(id string) (string, api.Errno) {
			if id == idOf("e") {
				return get(id)
			}
			return s.get(id)
		}
		wantNone(t, what+" at last", late, idOf("a"), api.ErrGone)
	}
}

// Promise 17.1, Line: what is not in the line may be wrong, and need not be there; so may what commits name beside their parents.
func TestLineElsewhere(t *testing.T) {
	s := storeOf("a, b: a, c: b gone, d: b, noform: a")
	for raw := range wrongOnes() {
		s["noform"], s["tree"] = raw, raw
		ids, e := bases.Line(s.get, idOf("d"))
		wantIDs(t, raw, ids, e, "a b d")
		ids, e = bases.Log(s.get, idOf("d"))
		wantIDs(t, raw, ids, e, "d b a")
		ids, e = bases.Best(s.get, idOf("b"), idOf("d"))
		wantIDs(t, raw, ids, e, "b")
		// One that is asked for need not be a commit, if it is not in the line.
		for _, old := range []string{"noform", "gone", "tree", "c"} {
			if is, e := bases.Behind(s.get, idOf(old), idOf("d")); is || e != api.OK {
				t.Errorf("Behind of %s: %v, %d", old, is, e)
			}
		}
	}
}

// Promise 17.1, Line, Behind, Best and Log: MostCommits commits, and one more, in a chain.
func TestLineMuch(t *testing.T) {
	s := chainOf(api.MostCommits + 1)
	last, more := fmt.Sprint(api.MostCommits), fmt.Sprint(api.MostCommits+1)
	ids, e := bases.Line(s.get, idOf(last))
	if len(ids) != api.MostCommits || !slices.IsSorted(ids) || e != api.OK {
		t.Errorf("Line: %d ids, error %d", len(ids), e)
	}
	log, e := bases.Log(s.get, idOf(last))
	if len(log) != api.MostCommits || log[0] != idOf(last) || log[len(log)-1] != idOf("1") || e != api.OK {
		t.Errorf("Log: %d ids, error %d", len(log), e)
	}
	for _, old := range []string{"1", "2", last} {
		if is, e := bases.Behind(s.get, idOf(old), idOf(last)); !is || e != api.OK {
			t.Errorf("Behind: %v, %d", is, e)
		}
	}
	if is, e := bases.Behind(s.get, idOf(more), idOf(last)); is || e != api.OK {
		t.Errorf("Behind of one that is ahead: %v, %d", is, e)
	}
	wantBest(t, s, last, "1", "1")
	wantBest(t, s, last, last, last)
	wantNone(t, "one more", s.get, idOf(more), api.ErrMuch)
	if is, e := bases.Behind(s.get, idOf(last), idOf(more)); is || e != api.ErrMuch {
		t.Errorf("Behind, one more: %v, %d", is, e)
	}
}

// Promise 17.1: MostCommits are those of a line, however often they are met, and of each line by itself.
func TestLineMuchOfEach(t *testing.T) {
	s := chainOf(api.MostCommits - 1)
	last := api.MostCommits - 1
	s["top"] = commit(0, fmt.Sprintf("%d %d 1 2", last, last-1))
	s["other"] = commit(0, fmt.Sprintf("%d 2 1", last))
	s["under"], s["both"] = commit(0, ""), commit(0, "top other")
	s["wide"] = commit(0, fmt.Sprint("under ", last))
	for _, id := range []string{"top", "other"} {
		if ids, e := bases.Line(s.get, idOf(id)); len(ids) != api.MostCommits || e != api.OK {
			t.Errorf("%s: %d ids, error %d", id, len(ids), e)
		}
	}
	wantBest(t, s, "top", "other", fmt.Sprint(last))
	wantNone(t, "both", s.get, idOf("both"), api.ErrMuch)
	wantNone(t, "wide", s.get, idOf("wide"), api.ErrMuch)
	// Two lines that have nothing in common have more than that in all.
	for i := range 9 {
		s[fmt.Sprint("x", i)] = commit(0, strings.Repeat(fmt.Sprint("x", i-1), min(i, 1)))
	}
	wantBest(t, s, "top", "x8", "")
}

// Promise 17.1, R1: where one too many has an error of its own, that is named first; what is behind one too many is not looked at.
func TestLineMuchOrError(t *testing.T) {
	last := idOf(fmt.Sprint(api.MostCommits + 1))
	s := chainOf(api.MostCommits + 1)
	delete(s, "1")
	wantNone(t, "gone", s.get, last, api.ErrGone)
	for raw, want := range wrongOnes() {
		s["1"] = raw
		if _, e := bases.Line(s.get, last); e != want {
			t.Errorf("%.40q: %d; want %d", raw, e, want)
		}
	}
	s["1"] = commit(0, "0")
	wantNone(t, "behind one too many", s.get, last, api.ErrMuch)
	// A getter that makes one commit behind the other has no end of them.
	n := 0
	endless := func(id string) (string, api.Errno) {
		n++
		return commit(0, fmt.Sprint(n)), api.OK
	}
	if ids, e := bases.Line(endless, idOf("a")); len(ids) != 0 || e != api.ErrMuch || n > api.MostCommits+1 {
		t.Errorf("%d ids, error %d, asked %d times", len(ids), e, n)
	}
}

// Promise 17.1, Behind: a commit behind itself; far behind; not behind, though near; whatever is asked for.
func TestBehind(t *testing.T) {
	s := chainOf(500)
	s["side"] = commit(0, "400")
	for _, c := range []struct {
		old, id string
		want    bool
	}{
		{"500", "500", true}, {"499", "500", true}, {"1", "500", true}, {"1", "2", true}, {"1", "1", true},
		{"2", "1", false}, {"500", "499", false}, {"side", "500", false}, {"400", "side", true}, {"401", "side", false}, {"tree", "500", false},
	} {
		if is, e := bases.Behind(s.get, idOf(c.old), idOf(c.id)); is != c.want || e != api.OK {
			t.Errorf("%s behind %s: %v, %d", c.old, c.id, is, e)
		}
	}
	for _, old := range []string{"", "1", "500", idOf("5")[1:], idOf("50") + ".", strings.Repeat("x", 1<<16)} {
		if is, e := bases.Behind(s.get, old, idOf("500")); is || e != api.OK {
			t.Errorf("%.40q: %v, %d", old, is, e)
		}
	}
}

// Promise 17.1, Behind: all of the line is looked at, also behind the one that is asked for, and beside it.
func TestBehindLooksAtAll(t *testing.T) {
	s := storeOf("e, d: e, c: d, b: c, a: b side, side")
	for _, old := range []string{"a", "b", "c", "d", "e", "side", "none"} {
		var asked []string
		if is, e := bases.Behind(s.noted(&asked), idOf(old), idOf("a")); is != (old != "none") || e != api.OK {
			t.Errorf("%s: %v, %d", old, is, e)
		}
		slices.Sort(asked)
		if !slices.Equal(asked, idsOf("a b c d e side")) {
			t.Errorf("%s: asked for %q", old, namesOf(asked))
		}
		for _, wrong := range []string{"e", "side"} {
			for raw, want := range wrongOnes() {
				spoilt := storeOf("e, d: e, c: d, b: c, a: b side, side")
				spoilt[wrong] = raw
				if is, e := bases.Behind(spoilt.get, idOf(old), idOf("a")); is || e != want {
					t.Errorf("%s where %s is %.40q: %v, %d; want %d", old, wrong, raw, is, e, want)
				}
			}
		}
	}
}

// Promise 17.1: commits by their sums, as objects have them.
func TestLineBySums(t *testing.T) {
	all := map[string]string{}
	get := func(id string) (string, api.Errno) {
		raw, is := all[id]
		if !is {
			return "", api.ErrGone
		}
		return raw, api.OK
	}
	var ids []string
	for i := range 100 {
		body, _ := object.PutCommit(api.Commit{Tree: idOf("tree"), Parents: ids[max(0, i-api.MostParents):], Author: "Ann", Time: uint64(i)})
		raw, _ := object.Raw(api.KindCommit, body)
		all[object.ID(raw)] = raw
		ids = append(ids, object.ID(raw))
	}
	log, e := bases.Log(get, ids[99])
	slices.Reverse(log)
	if !slices.Equal(log, ids) || e != api.OK {
		t.Errorf("%d ids, error %d", len(log), e)
	}
	line, e := bases.Line(get, ids[99])
	if !slices.Equal(line, slices.Sorted(slices.Values(ids))) || e != api.OK {
		t.Errorf("%d ids, error %d", len(line), e)
	}
}

// Promise 17.1, R1: each call ends where commits stand behind themselves, which sums do not allow.
func TestLineRings(t *testing.T) {
	s := storeOf("self: self, a: b, b: c, c: a, d: a e, e")
	wantLine(t, s, "self", "self")
	wantLine(t, s, "b", "a b c")
	wantLine(t, s, "d", "a b c d e")
	for _, id := range []string{"self", "a", "d"} {
		bases.Log(s.get, idOf(id))
		bases.Best(s.get, idOf(id), idOf("d"))
	}
}

// Promise 17.1, R2, R4: what is answered is the caller's own, and the same once more.
func TestLineOwn(t *testing.T) {
	s := storeOf("z, y: z, b: z, a: y b, c: y b")
	for range 50 {
		line, _ := bases.Line(s.get, idOf("a"))
		log, _ := bases.Log(s.get, idOf("a"))
		best, _ := bases.Best(s.get, idOf("a"), idOf("c"))
		for _, l := range [][]string{line, log, best} {
			for i := range l {
				l[i] = "x"
			}
			_ = append(l, "y")
		}
		wantLine(t, s, "a", "a b y z")
		wantLog(t, s, "a", "a b y z")
		wantBest(t, s, "a", "c", "b y")
	}
}
