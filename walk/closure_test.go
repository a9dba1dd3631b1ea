package walk_test

import (
	"fmt"
	"slices"
	"strings"
	"testing"

	"pollard/api"
	"pollard/object"
	"pollard/walk"
)

// history is two commits behind one, their trees, and tags of all kinds.
func history() store {
	return store{
		"x": blob("x"), "y": blob("y"), "z": blob(""),
		"e": folder(""), "low": folder("blob y, blob z"), "top": folder("blob x, tree low, tree e"), "old": folder("blob x"),
		"c1": commit("old", ""), "c2": commit("e", ""), "c3": commit("top", "c2 c1"), "c4": commit("top", "c3"),
		"tb": tag("blob z"), "tt": tag("tree low"), "tc": tag("commit c3"), "tg": tag("tag tc"),
	}
}

// Promise 16.1, Closure: what is looked at, round by round: a commit's tree ahead of its parents, a tree's entries in their order, a tag's target whatever its kind is; what an object names comes behind all that was named so far.
func TestClosureOrder(t *testing.T) {
	for _, c := range []struct{ from, names string }{
		{"blob x", "x"},
		{"tree e", "e"},
		{"tree low", "low y z"},
		{"tree top", "top x low e y z"},
		{"commit c1", "c1 old x"},
		{"commit c2", "c2 e"},
		{"commit c3", "c3 top c2 c1 x low e old y z"},
		{"commit c4", "c4 top c3 x low e c2 c1 y z old"},
		{"tag tb", "tb z"},
		{"tag tt", "tt low y z"},
		{"tag tc", "tc c3 top c2 c1 x low e old y z"},
		{"tag tg", "tg tc c3 top c2 c1 x low e old y z"},
		{"tree low, commit c1", "low c1 y z old x"},
		{"commit c1, tree low", "c1 low old y z x"},
		{"tag tg, blob y, tree top", "tg y top tc x low e c3 z c2 c1 old"},
		{"blob z, blob y, blob x", "z y x"},
	} {
		wantIDs(t, c.from, history().get, linksOf(c.from), nil, c.names)
	}
}

// Promise 16.1, Closure: a tree's files of all modes, at most MostEntries, and a commit's parents, at most MostParents, are all gone to.
func TestClosureOfMany(t *testing.T) {
	s := store{"e": folder("")}
	var links, names []string
	for i := range api.MostEntries {
		name := fmt.Sprint("b", i)
		s[name] = blob(name)
		links, names = append(links, "blob "+name), append(names, name)
	}
	s["wide"] = folder(strings.Join(links, ", "))
	wantIDs(t, "wide", s.get, linksOf("tree wide"), nil, "wide "+strings.Join(names, " "))

	parents := ""
	for i := range api.MostParents {
		name := fmt.Sprint("p", i)
		s[name] = commit("e", "")
		parents += name + " "
	}
	s["c"] = commit("e", parents)
	wantIDs(t, "parents", s.get, linksOf("commit c"), nil, "c e "+parents)
}

// Promise 16.1, Closure: a link whose id was looked at with this kind is passed over, so that each id is told once, and asked for once; rings end.
func TestClosureLookedAt(t *testing.T) {
	s := history()
	for name, raw := range map[string]string{
		"two": folder("tree low, tree low, blob z"), "self": folder("tree self, blob x"), "ra": folder("tree rb"), "rb": folder("tree rc, blob y"), "rc": folder("tree ra"),
		"cs": commit("e", "cs"), "ca": commit("e", "cb"), "cb": commit("old", "ca"), "ts": tag("tag ts"),
	} {
		s[name] = raw
	}
	for _, c := range []struct{ from, names string }{
		{"blob x, blob x, blob x", "x"},
		{"tree low, blob z, tree low, blob y, blob z", "low z y"},
		{"tree two", "two low z y"},
		{"commit c1, commit c3, commit c4, commit c1", "c1 c3 c4 old top c2 x low e y z"},
		{"tree self", "self x"},
		{"tree ra", "ra rb rc y"},
		{"tree rc, tree ra", "rc ra rb y"},
		{"commit cs", "cs e"},
		{"commit ca", "ca e cb old x"},
		{"tag ts", "ts"},
	} {
		var asked []string
		wantIDs(t, c.from, s.noted(&asked), linksOf(c.from), nil, c.names)
		if !slices.Equal(asked, idsOf(c.names)) {
			t.Errorf("%q: asked for %q", c.from, namesOf(asked))
		}
	}
}

// Promise 16.1, Closure: ids are any texts that the getter knows; only the same text is the same id.
func TestClosureAnyIDs(t *testing.T) {
	ids := []string{"", "a", "a.", idOf("a"), idOf("a")[1:], idOf("a") + ".", "\x00", "\x00\x00", "\xff", "\ufffd", "ä", "a\u0308"}
	get := func(id string) (string, api.Errno) { return blob(id), api.OK }
	var from []api.Link
	for _, id := range ids {
		from = append(from, api.Link{Kind: api.KindBlob, ID: id})
	}
	l, at, e := walk.Closure(get, append(from, from...), nil)
	if e != api.OK || at != (api.Link{}) || !slices.Equal(l, ids) {
		t.Errorf("%q, %v, %d", l, at, e)
	}
}

// Promise 16.1, Closure: a link whose id was looked at with another kind is ErrKind, whatever the getter and stop would say of it now.
func TestClosureLookedAtOtherwise(t *testing.T) {
	for _, is := range someKinds() {
		for _, kind := range slices.Concat(someKinds(), noKinds()) {
			if kind == is {
				continue
			}
			from := []api.Link{{Kind: is, ID: idOf("a")}, {Kind: kind, ID: idOf("a")}, {Kind: api.KindBlob, ID: idOf("gone")}}
			s := store{"a": ordinary(is)}
			wantErr(t, wordOf(is), s.get, from, nil, from[1], api.ErrKind)

			var asked []string
			turning := func(id string) (string, api.Errno) {
				asked = append(asked, id)
				if len(asked) == 1 {
					return ordinary(is), api.OK
				}
				if slices.Contains(someKinds(), kind) {
					return ordinary(kind), api.OK
				}
				return "", api.ErrGone
			}
			wantErr(t, wordOf(is), turning, from, nil, from[1], api.ErrKind)
			if len(asked) != 1 {
				t.Errorf("%d and %d: asked for %q", is, kind, asked)
			}
		}
	}
	// Not only links that are handed in, but also those that objects name.
	s := store{"x": blob("x"), "mixed": folder("blob x, tree x"), "self": folder("blob self"), "c": commit("c", ""), "t": tag("blob t"), "deep": commit("mixed", "")}
	wantErr(t, "mixed", s.get, linksOf("tree mixed"), nil, linkOf("tree x"), api.ErrKind)
	wantErr(t, "self", s.get, linksOf("tree self"), nil, linkOf("blob self"), api.ErrKind)
	wantErr(t, "c", s.get, linksOf("commit c"), nil, linkOf("tree c"), api.ErrKind)
	wantErr(t, "t", s.get, linksOf("tag t"), nil, linkOf("blob t"), api.ErrKind)
	wantErr(t, "deep", s.get, linksOf("blob x, commit deep"), nil, linkOf("tree x"), api.ErrKind)
}

// Promise 16.1, Closure: no links, and no objects behind them: nothing is asked for.
func TestClosureOfNothing(t *testing.T) {
	asked := 0
	get := func(string) (string, api.Errno) { asked++; return "", api.ErrGone }
	stop := func(string) bool { asked++; return true }
	for _, from := range [][]api.Link{nil, {}, make([]api.Link, 0, 9)} {
		wantIDs(t, "nothing", get, from, stop, "")
		wantIDs(t, "nothing", get, from, nil, "")
		wantIDs(t, "nothing", nil, from, nil, "")
	}
	if asked != 0 {
		t.Errorf("asked %d times", asked)
	}
}

// Promise 16.1, Closure: with as many as MostWalk looked at it ends well, and one more is ErrMuch; it is not asked for.
func TestClosureMost(t *testing.T) {
	var from []api.Link
	for i := range api.MostWalk + 1 {
		from = append(from, api.Link{Kind: api.KindBlob, ID: idOf(fmt.Sprint("b", i))})
	}
	last := from[api.MostWalk]
	asked := 0
	get := func(id string) (string, api.Errno) {
		asked++
		if id == last.ID {
			return "", api.ErrGone
		}
		return blob("any"), api.OK
	}
	most := from[:api.MostWalk]
	ids, at, e := walk.Closure(get, most, nil)
	if e != api.OK || at != (api.Link{}) || len(ids) != api.MostWalk || asked != api.MostWalk {
		t.Fatalf("as many as may be: %d ids, asked %d times, at %v, error %d", len(ids), asked, at, e)
	}
	for i, l := range most {
		if ids[i] != l.ID {
			t.Fatalf("%d is %q", i, ids[i])
		}
	}
	asked = 0
	wantErr(t, "one more", get, from, nil, last, api.ErrMuch)
	if asked != api.MostWalk {
		t.Errorf("one more: asked %d times", asked)
	}
	// What is passed over is none more, and what was looked at with another kind is told ahead.
	stop := func(id string) bool { return id == last.ID }
	again := slices.Concat(most[:1], from, from)
	if ids, at, e := walk.Closure(get, again, stop); e != api.OK || at != (api.Link{}) || len(ids) != api.MostWalk {
		t.Errorf("with stop: %d ids, at %v, error %d", len(ids), at, e)
	}
	other := api.Link{Kind: api.KindTree, ID: most[7].ID}
	wantErr(t, "another kind", get, slices.Concat(most, []api.Link{other}), nil, other, api.ErrKind)
	wantErr(t, "one more ahead", get, slices.Concat(from, []api.Link{other}), nil, last, api.ErrMuch)
}

// Promise 16.1, Closure: MostWalk counts those that objects name, too: tags in a row and in a ring, and files of many trees.
func TestClosureMostBehind(t *testing.T) {
	name := func(i int) string { return fmt.Sprint("t", i) }
	row := store{}
	for i := range api.MostWalk + 1 {
		row[name(i)] = tag("tag " + name(i+1))
	}
	last := name(api.MostWalk)
	wantErr(t, "a row", row.get, linksOf("tag t0"), nil, linkOf("tag "+last), api.ErrMuch)
	ids, _, e := walk.Closure(row.get, linksOf("tag t0"), amongst(last))
	if e != api.OK || len(ids) != api.MostWalk || ids[api.MostWalk-1] != idOf(name(api.MostWalk-1)) {
		t.Errorf("a row up to the last one: %d ids, error %d", len(ids), e)
	}
	row[name(api.MostWalk-1)] = tag("tag t0")
	ids, _, e = walk.Closure(row.get, linksOf("tag t0"), nil)
	if e != api.OK || len(ids) != api.MostWalk {
		t.Errorf("a ring: %d ids, error %d", len(ids), e)
	}

	// 100 trees in one, of 200 files each, are 101 more than may be.
	wide := func(id string) (string, api.Errno) {
		switch id[0] {
		case 't':
			return folder(manyLinks("tree d", 100)), api.OK
		case 'd':
			return folder(manyLinks("blob f"+nameOf(id[1:])+"-", 200)), api.OK
		}
		return blob(id), api.OK
	}
	wantErr(t, "wide", wide, linksOf("tree t"), nil, linkOf("blob f99-99"), api.ErrMuch)
}

// manyLinks is n links whose names end with numbers.
func manyLinks(word string, n int) string {
	l := make([]string, n)
	for i := range l {
		l[i] = word + fmt.Sprint(i)
	}
	return strings.Join(l, ", ")
}

// Promise 16.1, Closure: the getter's error, whatever it is and whatever bytes stand beside it.
func TestClosureGetterError(t *testing.T) {
	for _, err := range someErrors() {
		for _, beside := range []string{"", "x", blob("x"), folder(""), rawOf("tree", "x")} {
			get := func(id string) (string, api.Errno) {
				if id == idOf("wrong") {
					return beside, err
				}
				return history().get(id)
			}
			for _, kind := range slices.Concat(someKinds(), noKinds()) {
				l := api.Link{Kind: kind, ID: idOf("wrong")}
				wantErr(t, "wrong", get, []api.Link{l}, nil, l, err)
			}
			s := store{"a": folder("blob x, tree wrong")}
			deep := func(id string) (string, api.Errno) {
				if id == idOf("a") {
					return s.get(id)
				}
				return get(id)
			}
			wantErr(t, "deep", deep, linksOf("blob y, tree a"), nil, linkOf("tree wrong"), err)
		}
	}
}

// Promise 16.1, Closure: an object that object.Open does not take is told with its error, whatever kind its link says.
func TestClosureNoObject(t *testing.T) {
	for raw, err := range noObjects() {
		if _, _, e := object.Open(raw); e != err {
			t.Fatalf("Open of %q: %d", raw, e)
		}
		s := history()
		s["wrong"], s["a"] = raw, folder("blob x, blob wrong")
		for _, kind := range slices.Concat(someKinds(), noKinds()) {
			l := api.Link{Kind: kind, ID: idOf("wrong")}
			wantErr(t, raw, s.get, []api.Link{l}, nil, l, err)
		}
		wantErr(t, raw, s.get, linksOf("tree a"), nil, linkOf("blob wrong"), err)
	}
}

// Promise 16.1, Closure: an object of another kind than its link says is ErrKind, even if its body is of no form.
func TestClosureOtherKind(t *testing.T) {
	for _, is := range someKinds() {
		raws := []string{ordinary(is), rawOf(wordOf(is), ""), rawOf(wordOf(is), "x")}
		for _, raw := range raws {
			s := store{"a": raw, "e": folder(""), "x": blob("x")}
			for _, kind := range slices.Concat(someKinds(), noKinds()) {
				if kind == is {
					continue
				}
				l := api.Link{Kind: kind, ID: idOf("a")}
				wantErr(t, raw, s.get, []api.Link{l}, nil, l, api.ErrKind)
			}
		}
		wantIDs(t, raws[0], store{"a": raws[0], "e": folder(""), "x": blob("x")}.get, []api.Link{{Kind: is, ID: idOf("a")}}, nil, "a"+map[int]string{api.KindCommit: " e", api.KindTag: " x"}[is])
	}
	s := store{"x": blob("x"), "e": folder("")}
	for _, c := range []struct{ raw, link string }{
		{folder("blob x, blob e"), "blob e"}, {folder("tree e, tree x"), "tree x"}, {commit("x", ""), "tree x"}, {commit("e", "x"), "commit x"},
		{tag("blob e"), "blob e"}, {tag("tree x"), "tree x"}, {tag("commit x"), "commit x"}, {tag("tag e"), "tag e"},
	} {
		s["top"] = c.raw
		kind, _, _ := object.Open(c.raw)
		wantErr(t, c.raw, s.get, []api.Link{{Kind: kind, ID: idOf("top")}}, nil, linkOf(c.link), api.ErrKind)
	}
}

// Promise 16.1, Closure: an object that object.Links does not take is told with its error; nothing that it may name is gone to.
func TestClosureNoBody(t *testing.T) {
	for raw, err := range noBodies() {
		kind, _, open := object.Open(raw)
		if _, e := object.Links(raw); open != api.OK || e != err {
			t.Fatalf("Links of %q: %d, Open of it: %d", raw, e, open)
		}
		s := history()
		s["wrong"] = raw
		l := api.Link{Kind: kind, ID: idOf("wrong")}
		var asked []string
		wantErr(t, raw, s.noted(&asked), []api.Link{l}, nil, l, err)
		if len(asked) != 1 {
			t.Errorf("%q: asked for %q", raw, namesOf(asked))
		}
		s["deep"] = tag(wordOf(kind) + " wrong")
		wantErr(t, raw, s.get, linksOf("tree top, tag deep"), nil, l, err)
	}
	// A blob's body may be any.
	for raw := range noBodies() {
		wantIDs(t, raw, store{"b": blob(raw)}.get, linksOf("blob b"), nil, "b")
	}
}

// Promise 16.1, Closure: of several links that are wrong the one is told that comes first as one goes on, round by round.
func TestClosureFirstError(t *testing.T) {
	s := history()
	for name, raw := range map[string]string{
		"spoilt": "blob 1\x00", "noform": rawOf("tree", "x"),
		"deep": folder("tree deeper, blob x"), "deeper": folder("blob gone, blob spoilt"), "flat": folder("blob x, tree noform"),
		"ca": commit("deep", "cb"), "cb": commit("flat", "gone"),
	} {
		s[name] = raw
	}
	for _, c := range []struct {
		from, at string
		err      api.Errno
	}{
		{"tree deep, tree flat", "tree noform", api.ErrEnd},
		{"tree deep", "blob gone", api.ErrGone},
		{"tree deep, blob spoilt", "blob spoilt", api.ErrEnd},
		{"blob x, tree flat, tree deep", "tree noform", api.ErrEnd},
		{"commit ca", "commit gone", api.ErrGone},
		{"commit cb", "commit gone", api.ErrGone},
		{"tree flat, blob gone, blob spoilt", "blob gone", api.ErrGone},
		{"tree flat, blob spoilt, blob gone", "blob spoilt", api.ErrEnd},
		{"tag ca, blob gone", "tag ca", api.ErrKind},
		{"tree deeper, tree deep", "blob gone", api.ErrGone},
		{"tree deep, blob deep, blob gone", "blob deep", api.ErrKind},
	} {
		wantErr(t, c.from, s.get, linksOf(c.from), nil, linkOf(c.at), c.err)
	}
}
