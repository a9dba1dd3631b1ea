package bases_test

import (
	"math"
	"testing"

	"pollard/api"
	"pollard/bases"
)

// Promise 17.1, Best: one commit twice; one behind the other, both ways, near and far; two behind one; nothing in common.
func TestBest(t *testing.T) {
	s := storeOf("root, l1: root, l2: l1, l3: l2, r1: root, r2: r1, alone, on: alone")
	for _, c := range []struct{ a, b, names string }{
		{"root", "root", "root"},
		{"l3", "l3", "l3"},
		{"l3", "l2", "l2"},
		{"l3", "l1", "l1"},
		{"l3", "root", "root"},
		{"l1", "r1", "root"},
		{"l3", "r2", "root"},
		{"l1", "r2", "root"},
		{"root", "r2", "root"},
		{"alone", "root", ""},
		{"on", "l3", ""},
		{"on", "alone", "alone"},
	} {
		wantBest(t, s, c.a, c.b, c.names)
	}
}

// Promise 17.1, Best: several at once, rising; none that is a parent of one in both, though ways that go by others lead to it.
func TestBestSeveral(t *testing.T) {
	// Two that were merged crosswise.
	cross := "root, b: root, a: root, m1: a b, m2: b a"
	s := storeOf(cross)
	wantBest(t, s, "m1", "m2", "a b")
	wantBest(t, s, "m1", "a", "a")
	wantBest(t, s, "b", "m2", "b")
	wantBest(t, s, "a", "b", "root")
	// The root is a parent of one of the merges itself, and is no better for that.
	s = storeOf(cross + ", n1: a b root, n2: m2 root")
	wantBest(t, s, "n1", "m2", "a b")
	wantBest(t, s, "n1", "n2", "a b")
	wantBest(t, s, "m1", "n2", "a b")
	// Behind the best one are others by more ways, at all distances.
	s = storeOf("d, c: d, b: c, a: b, x: a c, y: d b a, z: d c")
	wantBest(t, s, "x", "y", "a")
	wantBest(t, s, "y", "z", "c")
	wantBest(t, s, "x", "z", "c")
	// Best ones of unlike depth, of which none is behind another one.
	s = storeOf("r, k3: r, k2: k3, k1: k2, c, b, a: b, m: k1 c a, n: a k1 c")
	wantBest(t, s, "m", "n", "a c k1")
	wantBest(t, s, "m", "b", "b")
	// What is a parent of one in a single line alone stays.
	s = storeOf("p, q: p, one: q p, other: p")
	wantBest(t, s, "one", "other", "p")
	wantBest(t, s, "one", "p", "p")
}

// Promise 17.1, Best: times say nothing here.
func TestBestTimes(t *testing.T) {
	s := storeOf("root 99, a 1: root, b 50: root, m 2: a b, n 0: b a, x 7: m, y 3: n")
	wantBest(t, s, "x", "y", "a b")
	wantBest(t, s, "x", "a", "a")
	wantBest(t, s, "a", "b", "root")
}

// Promise 17.1, Best: the error of a's line first, then that of b's, also where it is found out at once, or what they have in common is not touched by it.
func TestBestErrors(t *testing.T) {
	for raw, want := range wrongOnes() {
		s := storeOf("root, ok: root, a2: root, a1: a2 wrong, a: a1, b: root gone")
		s["wrong"] = raw
		for _, c := range []struct {
			a, b string
			want api.Errno
		}{
			{"a", "b", want}, {"b", "a", api.ErrGone}, {"a", "gone", want}, {"gone", "a", api.ErrGone}, {"wrong", "b", want}, {"b", "wrong", api.ErrGone},
			{"a", "ok", want}, {"ok", "a", want}, {"ok", "b", api.ErrGone}, {"b", "ok", api.ErrGone}, {"a", "a", want}, {"b", "b", api.ErrGone},
			{"root", "wrong", want}, {"wrong", "root", want}, {"a", "root", want}, {"root", "a", want},
		} {
			if ids, e := bases.Best(s.get, idOf(c.a), idOf(c.b)); len(ids) != 0 || e != c.want {
				t.Errorf("%.40q: best of %s and %s: %q, %d; want %d", raw, c.a, c.b, namesOf(ids), e, c.want)
			}
		}
	}
	s := chainOf(api.MostCommits + 1)
	s["top"] = commit(0, "4001")
	s["no"] = rawOf("blob", "")
	for _, c := range []struct {
		a, b string
		want api.Errno
	}{{"top", "gone", api.ErrMuch}, {"gone", "top", api.ErrGone}, {"no", "top", api.ErrKind}, {"top", "no", api.ErrMuch}, {"top", "1", api.ErrMuch}, {"1", "top", api.ErrMuch}} {
		if ids, e := bases.Best(s.get, idOf(c.a), idOf(c.b)); len(ids) != 0 || e != c.want {
			t.Errorf("best of %s and %s: %d ids, %d; want %d", c.a, c.b, len(ids), e, c.want)
		}
	}
	for what, get := range noGetters() {
		if ids, e := bases.Best(get, idOf("a"), idOf("b")); len(ids) != 0 || e != api.ErrGone {
			t.Errorf("%s: %q, %d", what, ids, e)
		}
	}
}

// Promise 17.1, Log: each behind all of which it is a parent; of those that may come first the one with the greatest time, of these the one with the least id.
func TestLog(t *testing.T) {
	for _, c := range []struct{ store, id, names string }{
		{"a", "a", "a"},
		{"c 1, b 2: c, a 3: b", "a", "a b c"},
		{"c 3, b 2: c, a 1: b", "a", "a b c"},
		{"root 1, l 2: root, r 3: root, m 4: l r", "m", "m r l root"},
		{"root 1, l 3: root, r 2: root, m 4: r l", "m", "m l r root"},
		{"root 1, l 2: root, r 2: root, m 4: r l", "m", "m l r root"},
		{"root 1, l: root, r: root, m: l r", "m", "m l r root"},
		{"root 1, l: root, r: root, m: r l", "m", "m l r root"},
		// The root may not come ahead of both its children, whatever its time.
		{"root 9, l 2: root, r 3: root, m 4: l r root", "m", "m r l root"},
		{"root 9, r 3: root, m 4: root r", "m", "m r root"},
		// What comes to be allowed takes its place among those that wait.
		{"e 6, d 1, c 5: e, b 4: d, a 9: b c", "a", "a c e b d"},
		{"e 3, d 1, c 5: e, b 4: d, a 9: b c", "a", "a c b e d"},
		{"e 4, d 4, c 4: e, b 4: d, a 4: b c", "a", "a b c d e"},
		{"b 4, e 4, c 4: b, d 4: e, a 4: c d", "a", "a c b d e"},
		{"z 9, y 8, x 7, w 6, top 1: w x y z", "top", "top z y x w"},
		{"z 6, y 7, x 8, w 9, top 1: z y x w", "top", "top w x y z"},
		{"z 5, y 5, x 5, w 5, top 1: z x y w", "top", "top w x y z"},
	} {
		wantLog(t, storeOf(c.store), c.id, c.names)
	}
	// Ids are held against one another byte by byte.
	s := store{"\x80": commit(0, ""), "\x7f": commit(0, ""), "ä": commit(0, ""), "a": commit(0, ""), "top": commit(0, "ä a \x80 \x7f")}
	wantLog(t, s, "top", "top a \x7f \x80 ä")
}

// Promise 17.1, Log: times from 0 to the greatest, held against one another as numbers without signs.
func TestLogTimes(t *testing.T) {
	s := store{
		"a":   commit(0, ""),
		"b":   commit(math.MaxUint64, ""),
		"c":   commit(1<<63, ""),
		"d":   commit(1<<63-1, ""),
		"e":   commit(1<<32, ""),
		"f":   commit(10, ""),
		"g":   commit(9, ""),
		"h":   commit(1<<32+1, ""),
		"low": commit(0, "a b c d"),
		"top": commit(0, "low e f"),
		"all": commit(0, "top g h"),
	}
	wantLog(t, s, "all", "all h g top e f low b c d a")
}

// Promise 17.1, Log: its line alone, and no commit of elsewhere.
func TestLogOfLine(t *testing.T) {
	s := storeOf("z 1, y 2: z, x 3: y, w 9: y z, v 8: w gone")
	wantLog(t, s, "z", "z")
	wantLog(t, s, "y", "y z")
	wantLog(t, s, "x", "x y z")
	wantLog(t, s, "w", "w y z")
}
