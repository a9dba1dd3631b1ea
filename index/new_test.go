package index_test

import (
	"slices"
	"strings"
	"testing"

	"pollard/api"
	"pollard/index"
)

// Promise 11.1, New, Find, All, Pack and Encode: lists of many kinds, in any order; what was handed in stays as it was (rule R2).
func TestNewKinds(t *testing.T) {
	for what, l := range someLists() {
		orders := [][]api.Spot{l, rising(l), shuffled(l, 1), shuffled(l, 2)}
		back := rising(l)
		slices.Reverse(back)
		for _, order := range append(orders, back) {
			given := slices.Clone(order)
			x := newIndex(t, packSum(), order)
			if !slices.Equal(order, given) {
				t.Errorf("%s: New changed what it was given", what)
			}
			wantIndex(t, what, x, packSum(), l)
		}
	}
}

// Promise 11.1, New: a list that is nil and one that is empty (rule R3).
func TestNewNone(t *testing.T) {
	for _, l := range [][]api.Spot{nil, {}, make([]api.Spot, 0, 9)} {
		x := newIndex(t, packSum(), l)
		wantIndex(t, "none", x, packSum(), nil)
		wantNone(t, "none", x, packSum())
	}
}

// Promise 11.1, New and Pack: any 32 bytes are a pack's sum, no others are.
func TestNewPack(t *testing.T) {
	for c := range 256 {
		wantIndex(t, "one", newIndex(t, idOf(byte(c)), alikeSpots('a', 1)), idOf(byte(c)), alikeSpots('a', 1))
	}
	for n := range 100 {
		if n != api.IDBytes {
			wantNoNew(t, api.ErrAsk, strings.Repeat("s", n))
			wantNoNew(t, api.ErrAsk, strings.Repeat("s", n), alikeSpots('a', 3)...)
		}
	}
	for _, pack := range noIDs() {
		wantNoNew(t, api.ErrAsk, pack)
	}
}

// Promise 11.1, New: just MostItems spots (TestNewKinds has them, too), and more of them.
func TestNewMost(t *testing.T) {
	for _, n := range []int{api.MostItems - 1, api.MostItems} {
		wantIndex(t, "most", newIndex(t, packSum(), manySpots(n)), packSum(), manySpots(n))
	}
	for _, n := range []int{api.MostItems + 1, api.MostItems + 2, 2 * api.MostItems, 1 << 16} {
		wantNoNew(t, api.ErrMuch, packSum(), manySpots(n)...)
	}
}

// wrongSpots are spots that may stand in no index.
func wrongSpots() []api.Spot {
	var l []api.Spot
	for n := range 100 {
		if n != api.IDBytes {
			l = append(l, api.Spot{ID: strings.Repeat("i", n), At: 1})
		}
	}
	for _, id := range noIDs() {
		l = append(l, api.Spot{ID: id})
	}
	for _, at := range []int{-1, -2, -api.MostPack, leastInt, api.MostPack + 1, api.MostPack + 2, 2 * api.MostPack, 1 << 31, 1<<32 - 1, 1 << 32, 1<<32 + 1, mostInt} {
		l = append(l, api.Spot{ID: idOf('i'), At: at}, api.Spot{ID: idOf(0), At: at}, api.Spot{ID: idOf(255), At: at})
	}
	return l
}

// Promise 11.1, New: an id that has not 32 bytes, a place that is not 0 to MostPack: alone, ahead of others, between and behind them.
func TestNewWrongSpots(t *testing.T) {
	good := manySpots(6)
	for _, x := range wrongSpots() {
		wantNoNew(t, api.ErrAsk, packSum(), x)
		for i := range len(good) + 1 {
			wantNoNew(t, api.ErrAsk, packSum(), slices.Insert(slices.Clone(good), i, x)...)
		}
	}
	for _, at := range []int{0, 1, api.MostPack - 1, api.MostPack} {
		l := append([]api.Spot{{ID: idOf('i'), At: at}}, good...)
		wantIndex(t, "a place", newIndex(t, packSum(), l), packSum(), l)
	}
}

// Promise 11.1, New: an id that stands twice, with one place and with two, next to each other and far apart.
func TestNewTwice(t *testing.T) {
	for _, at := range []int{0, 5} {
		wantNoNew(t, api.ErrAsk, packSum(), api.Spot{ID: idOf('a')}, api.Spot{ID: idOf('a'), At: at})
		wantNoNew(t, api.ErrAsk, packSum(), api.Spot{ID: idOf(0)}, api.Spot{ID: idOf(0), At: at})
		wantNoNew(t, api.ErrAsk, packSum(), api.Spot{ID: idOf(255)}, api.Spot{ID: idOf(255), At: at})
	}
	for _, l := range [][]api.Spot{manySpots(9), alikeSpots('a', 9), alikeSpots(0, 9), rising(manySpots(9))} {
		for _, x := range l {
			for _, at := range []int{x.At, x.At + 1} {
				again := api.Spot{ID: x.ID, At: at}
				for i := range len(l) + 1 {
					wantNoNew(t, api.ErrAsk, packSum(), slices.Insert(slices.Clone(l), i, again)...)
				}
			}
		}
	}
	most := manySpots(api.MostItems)
	most[api.MostItems-1].ID = most[0].ID
	wantNoNew(t, api.ErrAsk, packSum(), most...)
	wantNoNew(t, api.ErrAsk, packSum(), slices.Repeat(alikeSpots('a', 1), api.MostItems)...)
}

// Promise 11.1, New: the pack's sum comes ahead of too many spots, and these ahead of what is wrong with one.
func TestNewFirst(t *testing.T) {
	many := manySpots(api.MostItems + 1)
	for _, pack := range noIDs() {
		wantNoNew(t, api.ErrAsk, pack, many...)
		wantNoNew(t, api.ErrAsk, pack, many[0], many[0])
		wantNoNew(t, api.ErrAsk, pack, wrongSpots()...)
	}
	for _, x := range wrongSpots() {
		wantNoNew(t, api.ErrMuch, packSum(), append([]api.Spot{x}, many[1:]...)...)
		wantNoNew(t, api.ErrMuch, packSum(), append(slices.Clone(many), x)...)
		wantNoNew(t, api.ErrAsk, packSum(), append([]api.Spot{x}, many[2:]...)...)
	}
	wantNoNew(t, api.ErrMuch, packSum(), append(slices.Clone(many), many[0])...)
	wantNoNew(t, api.ErrMuch, packSum(), slices.Repeat(many[:1], api.MostItems+1)...)
}

// Rule R2, New: what is done later to the list that was handed in changes nothing.
func TestNewOwn(t *testing.T) {
	for what, l := range someLists() {
		given := slices.Clone(l)
		x := newIndex(t, packSum(), given)
		for i := range given {
			given[i] = api.Spot{ID: idOf(9), At: -1}
		}
		wantIndex(t, what, x, packSum(), l)
	}
}

// Rule R2, All: each answer is the caller's own, and what is done to it changes nothing.
func TestAllOwn(t *testing.T) {
	for what, l := range someLists() {
		x := newIndex(t, packSum(), l)
		y, e := index.Load(x.Encode())
		if e != api.OK {
			t.Fatalf("%s: Load: %d", what, e)
		}
		for _, z := range []*index.Index{x, y} {
			got, other := z.All(), z.All()
			clear(got)
			_ = append(got, api.Spot{ID: idOf(9)})
			if !slices.Equal(other, rising(l)) {
				t.Errorf("%s: two answers of All share what they hold", what)
			}
			wantIndex(t, what, z, packSum(), l)
		}
	}
}

// Promise 11.1: a nil index is nothing.
func TestNil(t *testing.T) {
	var x *index.Index
	if s := x.Encode(); s != "" {
		t.Errorf("Encode: %q", s)
	}
	if l := x.All(); len(l) != 0 {
		t.Errorf("All: %s", show(l))
	}
	if s := x.Pack(); s != "" {
		t.Errorf("Pack: %q", s)
	}
	for _, id := range append(noIDs(), idOf(0), idOf('a'), idOf(255), packSum()) {
		wantNone(t, "nil", x, id)
	}
}

// Rule R1: an index that neither New nor Load made does not panic.
func TestZero(t *testing.T) {
	x := &index.Index{}
	for _, id := range append(noIDs(), idOf(0), idOf('a'), idOf(255)) {
		wantNone(t, "zero", x, id)
	}
	if len(x.All()) != 0 || x.Pack() != "" {
		t.Errorf("zero: %s, %q", show(x.All()), x.Pack())
	}
	x.Encode()
}
