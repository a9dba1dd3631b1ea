package tree_test

import (
	"slices"
	"strings"
	"testing"

	"pollard/api"
	"pollard/tree"
)

// Promise 6.1, Check and Encode: no entries, ordinary ones, the bytes of each mode, and the chapter's example.
func TestEncode(t *testing.T) {
	wantMade(t, nil, "")
	wantMade(t, []api.Entry{}, "")
	id := idOf('i')
	wantMade(t, []api.Entry{{Name: "a", Mode: 1, ID: id}}, "file a\x00"+id)
	wantMade(t, []api.Entry{{Name: "a", Mode: 2, ID: id}}, "run a\x00"+id)
	wantMade(t, []api.Entry{{Name: "a", Mode: 3, ID: id}}, "tree a\x00"+id)
	wantMade(t, files("a", "b"), "file a\x00"+id+"file b\x00"+id)
	wantMade(t, []api.Entry{{Name: "b", Mode: 3, ID: idOf(1)}, {Name: "c", Mode: 2, ID: idOf(2)}, {Name: "d", Mode: 1, ID: idOf(3)}}, "tree b\x00"+idOf(1)+"run c\x00"+idOf(2)+"file d\x00"+idOf(3))
	l := ordinary()
	wantMade(t, l, bytesOf(l))
	long := strings.Repeat("ä", api.MostLabel/2)
	wantMade(t, files(long), "file "+long+"\x00"+id)
}

// Promise 6.1: just MostEntries entries, and more, which comes ahead of what these are.
func TestMuch(t *testing.T) {
	for _, n := range []int{1, api.MostEntries - 1, api.MostEntries} {
		wantMade(t, many(n), bytesOf(many(n)))
	}
	for _, n := range []int{api.MostEntries + 1, api.MostEntries + 2, 5000} {
		wantUnmade(t, many(n), api.ErrMuch)
		wantUnmade(t, make([]api.Entry, n), api.ErrMuch)
	}
	for _, f := range faults() {
		for _, at := range []int{1, 128, api.MostEntries - 1} {
			l := many(api.MostEntries + 1)
			f.spoil(&l[at], l[at-1].Name)
			wantUnmade(t, l, api.ErrMuch)
			wantUnmade(t, l[:api.MostEntries], f.want)
		}
	}
}

// Promise 6.1: names, modes and ids that are none, wherever they stand.
func TestFaults(t *testing.T) {
	for at := range len(ordinary()) {
		for _, s := range noNames() {
			l := ordinary()
			l[at].Name = s
			wantUnmade(t, l, api.ErrLabel)
		}
		for _, mode := range noModes() {
			l := ordinary()
			l[at].Mode = mode
			wantUnmade(t, l, api.ErrMode)
		}
		for _, id := range noIDs() {
			l := ordinary()
			l[at].ID = id
			wantUnmade(t, l, api.ErrBad)
		}
	}
}

// Promise 6.1: names that rise, byte by byte, whatever their modes are; the other way round they do not.
func TestOrder(t *testing.T) {
	for _, p := range [][2]string{
		{"a", "b"}, {"B", "a"}, {"a", "aa"}, {"aa", "b"}, {"a", "a "}, {"a", "a-b"}, {"a-b", "a0"}, {"a.b", "ab"}, {"10", "9"}, {" ", "a"},
		{"~", "\u00a0"}, {"z", "ä"}, {"ä", "ö"}, {"a~", "aä"}, {"ä", "äa"}, {"äz", "ää"}, {"ÿ", "Ā"}, {"\ud7ff", "\ue000"}, {"\uffee", "\U00010000"}, {"a\uffee", "a\U0001f600"}, {"e\u0301", "é"},
		{strings.Repeat("a", 63), strings.Repeat("a", 64)}, {strings.Repeat("a", 64), strings.Repeat("a", 63) + "b"},
	} {
		for _, modes := range [][2]int{{1, 1}, {1, 3}, {3, 1}, {3, 2}, {3, 3}} {
			x, y := file(p[0]), file(p[1])
			x.Mode, y.Mode = modes[0], modes[1]
			l := []api.Entry{x, y}
			wantMade(t, l, bytesOf(l))
			for _, l := range [][]api.Entry{{y, x}, {x, x}, {y, y}, {x, y, y}, {x, y, x}} {
				wantUnmade(t, l, api.ErrOrder)
				wantUnread(t, bytesOf(l), api.ErrOrder)
			}
		}
	}
	// Neither modes nor ids make two of one name.
	wantUnmade(t, []api.Entry{{Name: "a", Mode: 1, ID: idOf(1)}, {Name: "a", Mode: 3, ID: idOf(2)}}, api.ErrOrder)
	// Each name is held against the one ahead, not against the first.
	wantUnmade(t, files("a", "c", "b"), api.ErrOrder)
	wantUnmade(t, files("a", "b", "c", "d", "c"), api.ErrOrder)
}

// Promise 6.1: which error comes first, where several things are wrong in one entry.
func TestFirstInEntry(t *testing.T) {
	all := faults()
	for set := 1; set < 1<<len(all); set++ {
		for _, at := range []int{1, 3, 6} {
			l, want := ordinary(), api.OK
			for i := len(all) - 1; i >= 0; i-- {
				if set>>i&1 == 1 {
					all[i].spoil(&l[at], l[at-1].Name)
					want = all[i].want
				}
			}
			wantUnmade(t, l, want)
		}
	}
}

// Promise 6.1: an earlier entry's error comes first, whatever is wrong with a later one.
func TestFirstOfEntries(t *testing.T) {
	for _, one := range faults() {
		for _, other := range faults() {
			for _, at := range [][2]int{{1, 2}, {1, 6}, {3, 5}} {
				l := ordinary()
				one.spoil(&l[at[0]], l[at[0]-1].Name)
				other.spoil(&l[at[1]], l[at[1]-1].Name)
				wantUnmade(t, l, one.want)
			}
		}
	}
	// A name that is none ahead of one that is less.
	wantUnmade(t, files("\xff", "a"), api.ErrLabel)
}

// Rule R2: what is handed in stays as it is.
func TestEncodeKeeps(t *testing.T) {
	l := ordinary()
	s, _ := tree.Encode(l)
	tree.Check(l)
	if !slices.Equal(l, ordinary()) {
		t.Error(l)
	}
	m, _ := tree.Decode(s)
	m[0], m[1] = m[1], api.Entry{}
	_ = append(m[:2], api.Entry{})
	wantMade(t, l, s)
}
