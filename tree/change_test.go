package tree_test

import (
	"slices"
	"strings"
	"testing"

	"pollard/api"
	"pollard/tree"
)

// names are texts that rise, of which some are no names.
func names() []string {
	return []string{"", "\x00", "\x00a", "\n", " ", ".", "..", "/", "B", "a", "a\x00", "a ", "a/b", "aa", "b", "z", "\x7f", "\x80", "ä", "äa", "ö", "\ufffd", "\U0001f600", "\xff", "\xff\xff", "\xff\xff" + strings.Repeat("x", 100)}
}

// odd is an entry of any name, with a mode and an id of which some are none.
func odd(name string, n int) api.Entry {
	modes, ids := append(noModes(), 1, 2, 3), append(noIDs(), idOf('o'))
	return api.Entry{Name: name, Mode: modes[n%len(modes)], ID: ids[n%len(ids)]}
}

// slowWith goes through the entries one by one.
func slowWith(l []api.Entry, x api.Entry) []api.Entry {
	out := []api.Entry{x}
	for _, y := range l {
		if y.Name != x.Name {
			out = append(out, y)
		}
	}
	slices.SortFunc(out, func(x, y api.Entry) int { return strings.Compare(x.Name, y.Name) })
	return out
}

// slowWithout goes through the entries one by one.
func slowWithout(l []api.Entry, name string) []api.Entry {
	var out []api.Entry
	for _, y := range l {
		if y.Name != name {
			out = append(out, y)
		}
	}
	return out
}

// wantGet wants this answer; the entry that there is none is the zero one.
func wantGet(t *testing.T, l []api.Entry, name string, want api.Entry, there bool) {
	t.Helper()
	if x, is := tree.Get(l, name); x != want || is != there {
		t.Errorf("Get(%s, %.80q): %s, %t; wanted %s, %t", show(l), name, show([]api.Entry{x}), is, show([]api.Entry{want}), there)
	}
}

func wantWith(t *testing.T, l []api.Entry, x api.Entry, want []api.Entry) {
	t.Helper()
	if got := tree.With(l, x); !slices.Equal(got, want) {
		t.Errorf("With(%s, %s): %s; wanted %s", show(l), show([]api.Entry{x}), show(got), show(want))
	}
}

func wantWithout(t *testing.T, l []api.Entry, name string, want []api.Entry, there bool) {
	t.Helper()
	if got, is := tree.Without(l, name); !slices.Equal(got, want) || is != there {
		t.Errorf("Without(%s, %.80q): %s, %t; wanted %s, %t", show(l), name, show(got), is, show(want), there)
	}
}

// Promise 6.2: of no entries, of one, of several; ahead of all, behind all, between, and there.
func TestChange(t *testing.T) {
	b, d, f := file("b"), file("d"), file("f")
	wantGet(t, nil, "b", api.Entry{}, false)
	wantGet(t, []api.Entry{}, "", api.Entry{}, false)
	wantWith(t, nil, b, []api.Entry{b})
	wantWith(t, []api.Entry{}, b, []api.Entry{b})
	wantWithout(t, nil, "b", nil, false)
	wantWithout(t, []api.Entry{}, "", nil, false)

	one := []api.Entry{d}
	wantGet(t, one, "d", d, true)
	wantGet(t, one, "b", api.Entry{}, false)
	wantGet(t, one, "f", api.Entry{}, false)
	wantWith(t, one, b, []api.Entry{b, d})
	wantWith(t, one, f, []api.Entry{d, f})
	wantWithout(t, one, "d", nil, true)
	wantWithout(t, one, "b", one, false)
	wantWithout(t, one, "f", one, false)

	all := []api.Entry{b, d, f}
	wantGet(t, all, "b", b, true)
	wantGet(t, all, "f", f, true)
	wantGet(t, all, "e", api.Entry{}, false)
	wantWith(t, all, file("a"), files("a", "b", "d", "f"))
	wantWith(t, all, file("e"), files("b", "d", "e", "f"))
	wantWith(t, all, file("g"), files("b", "d", "f", "g"))
	wantWithout(t, all, "b", files("d", "f"), true)
	wantWithout(t, all, "d", files("b", "f"), true)
	wantWithout(t, all, "f", files("b", "d"), true)
	wantWithout(t, all, "c", all, false)
}

// Promise 6.2, With: the entry comes whole, in the place of the one of its name.
func TestWithSame(t *testing.T) {
	x := api.Entry{Name: "d", Mode: api.ModeTree, ID: idOf('x')}
	wantWith(t, files("d"), x, []api.Entry{x})
	wantWith(t, files("b", "d", "f"), x, []api.Entry{file("b"), x, file("f")})
	wantWith(t, files("d", "f"), x, []api.Entry{x, file("f")})
	wantWith(t, files("b", "d"), x, []api.Entry{file("b"), x})
	wantWith(t, files("b", "d"), file("d"), files("b", "d"))
	wantWith(t, files("D", "dd"), x, []api.Entry{file("D"), x, file("dd")})
	wantWith(t, files("d"), api.Entry{Name: "d"}, []api.Entry{{Name: "d"}})
}

// Promise 6.2: entries of any names, modes and ids, of all lengths, against slow ones; every name is asked for, also those that are not there.
func TestChangeAny(t *testing.T) {
	all := names()
	for step := 1; step <= len(all)+1; step++ {
		for first := range step {
			var l []api.Entry
			for i := first; i < len(all); i += step {
				l = append(l, odd(all[i], i))
			}
			for i, name := range all {
				want, there := api.Entry{}, i%step == first
				if there {
					want = odd(name, i)
				}
				wantGet(t, l, name, want, there)
				x := odd(name, i+1)
				wantWith(t, l, x, slowWith(l, x))
				wantWithout(t, l, name, slowWithout(l, name), there)
			}
		}
	}
}

// Promise 6.2: lists that are longer than a tree may be.
func TestChangeMany(t *testing.T) {
	for _, n := range []int{api.MostEntries - 1, api.MostEntries, api.MostEntries + 1, 1000} {
		l := many(n)
		for _, i := range []int{0, 1, n / 2, n - 2, n - 1} {
			name := l[i].Name
			wantGet(t, l, name, l[i], true)
			wantGet(t, l, name+" ", api.Entry{}, false)
			wantWith(t, l, odd(name, i), slowWith(l, odd(name, i)))
			wantWith(t, l, odd(name+" ", i), slowWith(l, odd(name+" ", i)))
			wantWithout(t, l, name, slowWithout(l, name), true)
			wantWithout(t, l, name+" ", l, false)
		}
	}
}

// Promise 6.2: a tree that comes entry by entry, in any order, and goes again.
func TestChangeAll(t *testing.T) {
	want := many(api.MostEntries)
	var l []api.Entry
	for i := range want {
		l = tree.With(l, want[i*77%len(want)])
		wantCheck(t, l, api.OK)
	}
	if !slices.Equal(l, want) {
		t.Error(show(l))
	}
	for i := range want {
		is := false
		if l, is = tree.Without(l, want[i*99%len(want)].Name); !is {
			t.Error(i)
		}
	}
	if len(l) != 0 {
		t.Error(show(l))
	}
}

// Promise 6.2: the list that is handed in stays as it was, also behind its end; the one that comes out is a new one.
func TestChangeNew(t *testing.T) {
	for _, name := range []string{"a", "b", "c", "d", "e", "f", "g"} {
		for _, change := range []func(l []api.Entry) []api.Entry{
			func(l []api.Entry) []api.Entry { return tree.With(l, odd(name, 1)) },
			func(l []api.Entry) []api.Entry { out, _ := tree.Without(l, name); return out },
		} {
			room := files("b", "d", "f", "x", "y")
			l := room[:3]
			out := change(l)
			if !slices.Equal(room, files("b", "d", "f", "x", "y")) {
				t.Errorf("%q: %s", name, show(room))
			}
			kept := slices.Clone(out)
			clear(l)
			if !slices.Equal(out, kept) {
				t.Errorf("%q: %s; wanted %s", name, show(out), show(kept))
			}
			copy(room, files("b", "d", "f", "x", "y"))
			clear(out[:cap(out)])
			if !slices.Equal(room, files("b", "d", "f", "x", "y")) {
				t.Errorf("%q: %s", name, show(room))
			}
		}
	}
}

// Rule R1: names that do not rise are nobody's promise, but the calls end.
func TestChangeUnordered(t *testing.T) {
	l := files("c", "a", "a", "z", "", "b", "a", "c")
	for n := range len(l) + 1 {
		for _, name := range names() {
			tree.Get(l[:n], name)
			tree.With(l[:n], file(name))
			tree.Without(l[:n], name)
		}
	}
	if !slices.Equal(l, files("c", "a", "a", "z", "", "b", "a", "c")) {
		t.Error(show(l))
	}
}
