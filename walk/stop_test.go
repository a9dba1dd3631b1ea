package walk_test

import (
	"fmt"
	"slices"
	"testing"

	"pollard/api"
	"pollard/walk"
)

// Promise 16.1, Closure: what stop tells is passed over, and so is what is behind it, but for what is gone to from elsewhere.
func TestClosureStop(t *testing.T) {
	for _, c := range []struct{ from, stop, names string }{
		{"commit c4", "", "c4 top c3 x low e c2 c1 y z old"},
		{"commit c4", "c4", ""},
		{"commit c4", "c3", "c4 top x low e y z"},
		{"commit c4", "c2 c1", "c4 top c3 x low e y z"},
		{"commit c4", "top", "c4 c3 c2 c1 e old x"},
		{"commit c4", "top old e", "c4 c3 c2 c1"},
		{"commit c4", "x y z", "c4 top c3 low e c2 c1 old"},
		{"commit c4", "low", "c4 top c3 x e c2 c1 old"},
		{"tree top, tree low", "top", "low y z"},
		{"tree low, tree top", "y", "low top z x e"},
		{"tag tg, commit c1", "tc", "tg c1 old x"},
		{"tag tc", "nothing", "tc c3 top c2 c1 x low e old y z"},
	} {
		wantIDs(t, c.from+" but "+c.stop, history().get, linksOf(c.from), amongst(c.stop), c.names)
	}
	all := func(string) bool { return true }
	wantIDs(t, "all", history().get, linksOf("commit c4, tree top, blob x, blob gone"), all, "")
}

// Promise 16.1, Closure: what stop tells is not asked for: it need not be there, nor be of the form, nor of the kind that its link says.
func TestClosureStopAheadOfGetter(t *testing.T) {
	s := history()
	s["spoilt"], s["noform"] = "blob 1\x00", rawOf("tree", "x")
	s["top"] = folder("blob gone, blob spoilt, tree noform, tree x, blob y")
	stop := amongst("gone spoilt noform x")
	var asked []string
	wantIDs(t, "wrong ones", s.noted(&asked), linksOf("tree top"), stop, "top y")
	if !slices.Equal(asked, idsOf("top y")) {
		t.Errorf("asked for %q", namesOf(asked))
	}
	for _, kind := range slices.Concat(someKinds(), noKinds()) {
		for _, name := range []string{"gone", "spoilt", "noform", "x"} {
			wantIDs(t, name, s.get, []api.Link{{Kind: kind, ID: idOf(name)}}, stop, "")
		}
	}
	// It was not looked at, so that no two kinds of it stand against each other.
	wantIDs(t, "two kinds", s.get, linksOf("blob x, tree x, commit x, blob y, tag x"), stop, "y")
}

// Promise 16.1, Closure: stop is asked link by link of those that were not looked at, and of these alone.
func TestClosureStopAsked(t *testing.T) {
	for _, c := range []struct{ from, stop, asked string }{
		{"blob x, blob x", "", "x"},
		{"blob x, blob x", "x", "x x"},
		{"tree low, blob y, tree low", "", "low y z"},
		{"tree low, blob y, tree low", "y", "low y y z"},
		{"commit c1, tree old, blob x", "", "c1 old x"},
		{"commit c3", "c2 low", "c3 top c2 c1 x low e old"},
	} {
		var asked []string
		stop := func(id string) bool {
			asked = append(asked, id)
			return amongst(c.stop)(id)
		}
		if _, _, e := walk.Closure(history().get, linksOf(c.from), stop); e != api.OK || !slices.Equal(asked, idsOf(c.asked)) {
			t.Errorf("%s but %s: stop was asked of %q, error %d", c.from, c.stop, namesOf(asked), e)
		}
	}
}

// Promise 16.1, Closure: an id that was looked at is none that stop may pass over: with this kind it is passed over whatever stop tells, with another kind it is ErrKind even if stop tells it now.
func TestClosureStopTooLate(t *testing.T) {
	for _, is := range someKinds() {
		for _, kind := range slices.Concat(someKinds(), noKinds()) {
			s := store{"a": ordinary(is), "e": folder(""), "x": blob("x")}
			late := false
			get := func(id string) (string, api.Errno) { late = true; return s.get(id) }
			stop := func(id string) bool { return late && id == idOf("a") }
			from := []api.Link{{Kind: is, ID: idOf("a")}, {Kind: kind, ID: idOf("a")}}
			if kind != is {
				wantErr(t, fmt.Sprint(is, kind), get, from, stop, from[1], api.ErrKind)
				continue
			}
			wantIDs(t, fmt.Sprint(is), get, from, stop, "a"+map[int]string{api.KindCommit: " e", api.KindTag: " x"}[is])
		}
	}
	s := store{"x": blob("x"), "mixed": folder("blob x, tree x")}
	asked := 0
	stop := func(string) bool { asked++; return asked > 2 }
	wantErr(t, "mixed", s.get, linksOf("tree mixed"), stop, linkOf("tree x"), api.ErrKind)
}

// Promise 16.1, Closure: what stop told once is looked at, if it does not tell it any more.
func TestClosureStopNoMore(t *testing.T) {
	asked := 0
	stop := func(string) bool { asked++; return asked == 1 }
	wantIDs(t, "once", history().get, linksOf("tree low, blob x, tree low"), stop, "x low y z")
	asked = 0
	wantIDs(t, "another kind", history().get, linksOf("blob low, tree low"), stop, "low y z")
}

// Promise 16.1, Closure: a stop that panics tells nothing (rules R1 and 4 of the language).
func TestClosureStopPanics(t *testing.T) {
	for what, stop := range map[string]func(id string) bool{
		"panics":            func(id string) bool { panic(id) },
		"panics of its own": func(id string) bool { var none map[string]bool; none[id] = true; return true },
		"no":                func(string) bool { return false },
	} {
		wantIDs(t, what, history().get, linksOf("tree top"), stop, "top x low e y z")
		wantErr(t, what, history().get, linksOf("tree low, blob gone"), stop, linkOf("blob gone"), api.ErrGone)
	}
	some := func(id string) bool {
		if id == idOf("x") {
			panic(id)
		}
		return id == idOf("low")
	}
	wantIDs(t, "panics once", history().get, linksOf("tree top"), some, "top x e")
}
