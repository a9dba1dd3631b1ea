package walk_test

import (
	"slices"
	"testing"

	"pollard/api"
	"pollard/object"
	"pollard/walk"
)

// Promise 16.1, Whole: true just if Closure of that one link has no error.
func TestWhole(t *testing.T) {
	whole := func(what string, get walk.Getter, l api.Link, want bool) {
		t.Helper()
		if _, _, e := walk.Closure(get, []api.Link{l}, nil); (e == api.OK) != want {
			t.Fatalf("%.80q: Closure: %d", what, e)
		}
		if is := walk.Whole(get, l); is != want {
			t.Errorf("%.80q, %d %q: %v", what, l.Kind, nameOf(l.ID), is)
		}
	}
	for name, raw := range history() {
		kind, _, _ := object.Open(raw)
		for _, k := range slices.Concat(someKinds(), noKinds()) {
			whole(name, history().get, api.Link{Kind: k, ID: idOf(name)}, k == kind)
		}
	}
	whole("no link", history().get, api.Link{}, false)
	whole("gone", history().get, linkOf("blob gone"), false)
	// With one object gone, or another one in its place, those are whole that do not reach it.
	reach := map[string]string{"tree low": "low y z", "tree top": "top x low e y z", "commit c3": "c3 top c2 c1 x low e old y z", "tag tg": "tg tc c3 top c2 c1 x low e old y z", "tag tb": "tb z", "blob x": "x"}
	for gone := range history() {
		for link, names := range reach {
			want := !slices.Contains(idsOf(names), idOf(gone))
			s := history()
			delete(s, gone)
			whole("without "+gone, s.get, linkOf(link), want)
			s[gone] = "tree 1\x00"
			whole("spoilt "+gone, s.get, linkOf(link), want)
			s[gone] = rawOf("tree", "x")
			whole("no tree "+gone, s.get, linkOf(link), want)
			s[gone] = rawOf("commit", "")
			whole("no commit "+gone, s.get, linkOf(link), want)
		}
	}
	for raw := range noBodies() {
		kind, _, _ := object.Open(raw)
		whole(raw, store{"a": raw}.get, api.Link{Kind: kind, ID: idOf("a")}, false)
	}
	s := store{"x": blob("x"), "mixed": folder("blob x, tree x")}
	whole("mixed", s.get, linkOf("tree mixed"), false)
}

// Promise 16.1, Kind: each of the four kinds, whatever the body is.
func TestKind(t *testing.T) {
	for _, kind := range someKinds() {
		word := wordOf(kind)
		for _, raw := range []string{ordinary(kind), rawOf(word, ""), rawOf(word, "x"), rawOf(word, "\x00"), rawOf(word, ordinary(api.KindBlob))} {
			var asked []string
			s := store{"a": raw}
			if k, e := walk.Kind(s.noted(&asked), idOf("a")); k != kind || e != api.OK || !slices.Equal(asked, idsOf("a")) {
				t.Errorf("%q: %d, %d, asked for %q", raw, k, e, namesOf(asked))
			}
		}
	}
	for raw := range noBodies() {
		kind, _, _ := object.Open(raw)
		if k, e := walk.Kind(store{"a": raw}.get, idOf("a")); k != kind || e != api.OK {
			t.Errorf("%q: %d, %d", raw, k, e)
		}
	}
}

// Promise 16.1, Kind: the getter's error, whatever bytes stand beside it; object.Open's; with an error no kind.
func TestKindErrors(t *testing.T) {
	for _, err := range someErrors() {
		for _, beside := range []string{"", blob("x"), commit("e", "")} {
			get := func(string) (string, api.Errno) { return beside, err }
			if k, e := walk.Kind(get, idOf("a")); k != 0 || e != err {
				t.Errorf("%q beside %d: %d, %d", beside, err, k, e)
			}
		}
	}
	for raw, err := range noObjects() {
		if k, e := walk.Kind(store{"a": raw}.get, idOf("a")); k != 0 || e != err {
			t.Errorf("%q: %d, %d, want %d", raw, k, e, err)
		}
	}
	for _, id := range []string{"", "a", idOf("gone")} {
		if k, e := walk.Kind(history().get, id); k != 0 || e != api.ErrGone {
			t.Errorf("%q: %d, %d", id, k, e)
		}
	}
}

// Rule R1: a getter that is none, or panics, has nothing.
func TestNoGetter(t *testing.T) {
	for what, get := range noGetters() {
		wantErr(t, what, get, linksOf("blob x, blob y"), nil, linkOf("blob x"), api.ErrGone)
		wantIDs(t, what, get, linksOf("blob x, tree y"), amongst("x y"), "")
		if walk.Whole(get, linkOf("blob x")) {
			t.Errorf("%s: whole", what)
		}
		if k, e := walk.Kind(get, idOf("x")); k != 0 || e != api.ErrGone {
			t.Errorf("%s: %d, %d", what, k, e)
		}
		if get == nil {
			continue
		}
		some := func(id string) (string, api.Errno) {
			if id == idOf("x") {
				return get(id)
			}
			return history().get(id)
		}
		wantErr(t, what, some, linksOf("tree top, tree low"), nil, linkOf("blob x"), api.ErrGone)
		wantIDs(t, what, some, linksOf("tree low"), nil, "low y z")
	}
}

// Rule R2: the links that are handed in stay as they are, and so does what lies behind them; those who are asked may change them without harm.
func TestHandedIn(t *testing.T) {
	room := linksOf("tree top, tag tb, blob gone, blob gone, blob gone, blob gone, blob gone, blob gone")
	was := slices.Clone(room)
	from := room[:2]
	wantIDs(t, "room", history().get, from, nil, "top tb x low e z y")
	if !slices.Equal(room, was) {
		t.Error("the links that were handed in are changed")
	}
	get := func(id string) (string, api.Errno) {
		clear(room)
		return history().get(id)
	}
	wantIDs(t, "changed by the getter", get, from, nil, "top tb x low e z y")
	room = slices.Clone(was)
	from = room[:2]
	stop := func(id string) bool { clear(room); return id == idOf("low") }
	wantIDs(t, "changed by stop", history().get, from, stop, "top tb x e z")
}

// Rules R2 and R4: an answer is the caller's own, and the same again.
func TestAnswersAgain(t *testing.T) {
	for range 20 {
		ids, _, e := walk.Closure(history().get, linksOf("tag tg, commit c4"), nil)
		if e != api.OK || namesOf(ids) != "tg c4 tc top c3 x low e c2 c1 y z old" {
			t.Fatalf("%q, %d", namesOf(ids), e)
		}
		clear(ids)
	}
}

// Promise 16.1: a getter may walk on its own in between.
func TestWalkWithinWalk(t *testing.T) {
	within := 0
	get := func(id string) (string, api.Errno) {
		if walk.Whole(history().get, linkOf("tag tg")) {
			within++
		}
		return history().get(id)
	}
	wantIDs(t, "within", get, linksOf("tree top"), nil, "top x low e y z")
	if within != 6 {
		t.Errorf("whole %d times", within)
	}
}

// Promise 16.1, of objects by their own ids: a commit, its tree, its parents, what the tree names.
func TestOfOwnIDs(t *testing.T) {
	all := map[string]string{}
	get := func(id string) (string, api.Errno) {
		if raw, is := all[id]; is {
			return raw, api.OK
		}
		return "", api.ErrGone
	}
	put := func(raw string) string {
		all[object.ID(raw)] = raw
		return object.ID(raw)
	}
	putCommit := func(c api.Commit) string {
		body, e := object.PutCommit(c)
		if e != api.OK {
			t.Fatal(e)
		}
		return put(rawOf("commit", body))
	}
	a, b := put(blob("a")), put(blob("b"))
	low := put(rawOf("tree", "file b\x00"+b))
	top := put(rawOf("tree", "file a\x00"+a+"tree d\x00"+low))
	first := putCommit(api.Commit{Tree: low, Author: "Ann", Time: 1})
	second := putCommit(api.Commit{Tree: top, Parents: []string{first}, Author: "Bob", Time: 2})
	ids, at, e := walk.Closure(get, []api.Link{{Kind: api.KindCommit, ID: second}}, nil)
	if e != api.OK || at != (api.Link{}) || !slices.Equal(ids, []string{second, top, first, a, low, b}) {
		t.Errorf("%d ids, at %v, error %d", len(ids), at, e)
	}
	delete(all, b)
	if _, at, e := walk.Closure(get, []api.Link{{Kind: api.KindCommit, ID: second}}, nil); e != api.ErrGone || at != (api.Link{Kind: api.KindBlob, ID: b}) {
		t.Errorf("without b: at %v, error %d", at, e)
	}
}
