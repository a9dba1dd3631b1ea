package chain_test

import (
	"math/rand"
	"slices"
	"testing"

	"pollard/api"
	"pollard/chain"
	"pollard/sample"
)

// Promise 12.1, Items: known bytes: a whole one, and one that is made of it.
func TestItemsKnown(t *testing.T) {
	one := "blob 24\x00the very same old sample"
	other := "blob 25\x00the very same old sample!"
	wantItems(t, []string{one, other}, []int{-1, 0}, []api.Item{
		{Data: one},
		// 32 bytes, 33 bytes; 16 are put; 16 are those of the base from 16 on; 1 is put.
		{Base: sumOf(one), Data: "\x20\x21\x1eblob 25\x00the very\x1f\x10\x00!"},
	})
}

// Promise 12.1, Items: no objects, however many bases there are.
func TestItemsNone(t *testing.T) {
	for _, bases := range [][]int{nil, {}, {0}, {-1, 0, 1}} {
		wantItems(t, nil, bases, nil)
		wantItems(t, []string{}, bases, nil)
	}
}

// Promise 12.1, Items: fewer bases than objects, and more: who has none is whole.
func TestItemsFewerAndMoreBases(t *testing.T) {
	raws := alike(4)
	all := rowItems(raws)
	for n := range 5 {
		want := slices.Clone(all)
		for i := n; i < 4; i++ {
			want[i] = whole(raws[i])
		}
		wantItems(t, raws, []int{-1, 0, 1, 2}[:n], want)
	}
	for _, more := range [][]int{{3}, {0, 0, 0}, {-1, 9, 4}} {
		wantItems(t, raws, append([]int{-1, 0, 1, 2}, more...), all)
	}
	wantItems(t, raws, nil, []api.Item{whole(raws[0]), whole(raws[1]), whole(raws[2]), whole(raws[3])})
}

// Promise 12.1, Items: each base that there can be: those from 0 to i - 1 are taken, itself and later ones and others are not.
func TestItemsEachBase(t *testing.T) {
	raws := someRaws()
	for i, raw := range raws {
		for _, base := range []int{-1 << 63, -i - 1, -2, -1, 0, 1, i / 2, i - 1, i, i + 1, len(raws) - 1, len(raws), len(raws) + 1, 1 << 32, 1<<63 - 1} {
			want := make([]api.Item, len(raws))
			bases := make([]int, len(raws))
			for k := range want {
				want[k], bases[k] = whole(raws[k]), -1
			}
			bases[i] = base
			if base >= 0 && base < i {
				want[i] = made(raws[base], raw)
			}
			wantItems(t, raws, bases, want)
		}
	}
}

// Promise 12.1, Items: a row in which each is made of the one ahead of it: MostChain are made of a whole one, the next is whole, and so on.
func TestItemsRow(t *testing.T) {
	for _, n := range []int{1, 2, 11, 12, 13, 14, 25, 26, 27, 28, 60} {
		raws := alike(n)
		bases := make([]int, n)
		for i := range bases {
			bases[i] = i - 1
		}
		want := rowItems(raws)
		for i := 0; i < n; i += api.MostChain + 1 {
			want[i] = whole(raws[i])
		}
		wantItems(t, raws, bases, want)
	}
}

// Promise 12.1, Items: how far one stands is counted from the whole one that it is made of, not by those ahead of it.
func TestItemsFar(t *testing.T) {
	raws := alike(40)
	bases := make([]int, 40)
	for i := range bases {
		bases[i] = i - 1
	}
	// Those behind the row's end are made of each in it: of the last one, that stands MostChain from the whole one, nothing is.
	for i := 13; i < 26; i++ {
		bases[i] = i - 13
	}
	want := slowItems(raws, bases)
	for i := 13; i < 25; i++ {
		if want[i].Base == "" {
			t.Errorf("%d is whole", i)
		}
	}
	if want[25].Base != "" || want[26].Base == "" {
		t.Error("25 is made of 12, or 26 is not made of 25")
	}
	wantItems(t, raws, bases, want)
	// All of one: none stands farther than one step.
	for i := range bases {
		bases[i] = 0
	}
	wantItems(t, raws, bases, slowItems(raws, bases))
	if want := slowItems(raws, bases); want[39].Base != sumOf(raws[0]) {
		t.Error("the last one is not made of the first one")
	}
}

// Promise 12.1, Items: what is no object is made of others, too, and one that stands twice is made of itself.
func TestItemsAnyTexts(t *testing.T) {
	raws := []string{"", "", "x", "x", sample.Text(3000), sample.Text(3000) + "x", "blob 0\x00", "blob 0\x00"}
	for _, bases := range [][]int{nil, {-1, 0, 1, 2, 3, 4, 5, 6}, {0, 0, 0, 0, 0, 0, 0, 0}, {7, 6, 5, 4, 3, 2, 1, 0}} {
		wantItems(t, raws, bases, slowItems(raws, bases))
	}
}

// Promise 12.1, Items: bases by chance, as by the chapter's words.
func TestItemsByChance(t *testing.T) {
	r := rand.New(rand.NewSource(12))
	for range 300 {
		raws := alike(r.Intn(60))
		bases := make([]int, r.Intn(70))
		near := 1 + r.Intn(30)
		for i := range bases {
			bases[i] = i - r.Intn(near)
		}
		wantItems(t, raws, bases, slowItems(raws, bases))
	}
}

// Promises 12.1 and R2, Items: what was handed in stays as it was, and what came out does not hang on it.
func TestItemsOwn(t *testing.T) {
	raws, bases := alike(20), make([]int, 25)
	for i := range bases {
		bases[i] = i - 1
	}
	raws0, bases0 := slices.Clone(raws), slices.Clone(bases)
	l := chain.Items(raws, bases)
	if !slices.Equal(raws, raws0) || !slices.Equal(bases, bases0) {
		t.Error("what was handed in is another")
	}
	for i := range raws {
		raws[i], bases[i] = "other", 0
	}
	if !slices.Equal(l, slowItems(raws0, bases0)) {
		t.Error("the items changed with what was handed in")
	}
	again := chain.Items(raws0, bases0)
	clear(l)
	if !slices.Equal(again, slowItems(raws0, bases0)) {
		t.Error("items of one call changed with those of another one")
	}
}

func BenchmarkItems(b *testing.B) {
	raws := alike(api.MostItems)
	bases := make([]int, len(raws))
	for i := range bases {
		bases[i] = i - 1
	}
	for range b.N {
		chain.Items(raws, bases)
	}
}
