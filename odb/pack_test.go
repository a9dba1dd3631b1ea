package odb_test

import (
	"slices"
	"strings"
	"testing"

	"pollard/api"
	"pollard/code"
)

// Promise 15.1, AddPack: a pack that is new is laid, and then its index; all is there then, and behind a fall.
func TestAddNew(t *testing.T) {
	alone, in, other := someRaws(), blobs(20, "packed"), blobs(3, "other")
	old := packOf(t, other...)
	for _, p := range []string{packOf(t, in...), packOf(t, with(in, alone, other)...), packOf(t, in[0]), packOf(t), builtOf(t, nil)} {
		f := holding(t, alone, old).FS()
		wantSteps(t, "new", f, adds(p), with(layLines(packAt(p), p), layLines(indexAt(p), trueIndex(t, p)))...)
		d := opened(t, f)
		var raws []string
		for _, x := range spotsOf(t, p) {
			raw := slices.IndexFunc(with(in, alone, other), func(raw string) bool { return sumOf(raw) == x.ID })
			raws = append(raws, with(in, alone, other)[raw])
		}
		wantAdd(t, d, p, len(raws))
		wantAll(t, "new", d, alone, []string{old, p}, with(alone, other, raws))
		wantAll(t, "new, and a fall", opened(t, fallen(f)), alone, []string{old, p}, with(alone, other, raws))
	}
}

// Promise 15.1, AddPack: nothing is done where it is there; it tells how many objects it has (the chapter's example).
func TestAddTwice(t *testing.T) {
	in := blobs(5, "packed")
	p := packOf(t, in...)
	d := holding(t, nil, p)
	wantSteps(t, "twice", d.FS(), adds(p))
	wantAdd(t, d, p, 5)
	wantAll(t, "twice", d, nil, []string{p}, in)
	d = opened(t, d.FS())
	wantAdd(t, d, p, 5)
	wantAll(t, "twice, opened between", d, nil, []string{p}, in)

	// Whatever its index says.
	play(t, d.FS(), "write "+indexAt(p)+" "+indexOf(t, p, nil))
	wantSteps(t, "with another index", d.FS(), adds(p))
	wantAdd(t, opened(t, d.FS()), p, 5)

	// The same objects in another order are another pack.
	other := packOf(t, in[4], in[3], in[2], in[1], in[0])
	wantAdd(t, d, other, 5)
	wantAll(t, "another order", d, nil, []string{p, other}, in)
}

// Promise 15.1, AddPack: each of chain.Unpack's errors, with what is there left as it was.
func TestAddErrors(t *testing.T) {
	alone, in := someRaws(), blobs(3, "packed")
	old := packOf(t, in...)
	d := holding(t, alone, old)
	for p, want := range wrongPacks(t) {
		wantNoAdd(t, "wrong", d, p, want)
		wantNoAdd(t, "wrong, and its sum", d, p[:len(p)-1], api.ErrSpoilt)
	}
	p := packOf(t, blobs(4, "packed")...)
	for _, x := range []string{old, p} {
		for n := range len(x) {
			want := api.ErrSpoilt
			if n < api.IDBytes {
				want = api.ErrEnd
			}
			wantNoAdd(t, "cut", d, x[:n], want)
		}
	}
	wantNoAdd(t, "long", d, strings.Repeat("x", api.MostPack+1), api.ErrMuch)
	wantNoAdd(t, "many items", d, sealed("pollard pack\n"+code.Num(api.MostItems+1)), api.ErrMuch)
	wantNoAdd(t, "a number that does not end", d, sealed("pollard pack\n"+strings.Repeat("\x80", 9)), api.ErrBad)
	wantAll(t, "behind the errors", d, alone, []string{old}, with(alone, in))
	wantAll(t, "behind the errors, opened again", opened(t, d.FS()), alone, []string{old}, with(alone, in))
}

// Promise 15.1, AddPack: no room for the pack: an error, and nothing is done; room for it alone: its index is not laid, and that is no error.
func TestAddNoRoom(t *testing.T) {
	alone, in := someRaws(), blobs(5, "packed")
	p := packOf(t, in...)
	x := trueIndex(t, p)
	d := holding(t, alone)
	used := d.FS().Used()
	for _, room := range []int{used, used + 1, used + len(p) - 1} {
		d.FS().Room(room)
		wantNoAdd(t, "no room", d, p, api.ErrFull)
	}
	for _, room := range []int{used + len(p), used + len(p) + len(x) - 1} {
		f := d.FS().Clone()
		f.Room(room)
		wantSteps(t, "room for the pack", f, adds(p), layLines(packAt(p), p)...)
		d := opened(t, f)
		wantAdd(t, d, p, 5)
		wantAdd(t, d, p, 5)
		wantAll(t, "room for the pack", d, alone, []string{p}, with(alone, in))
		if s, e := f.Read(indexAt(p)); e != api.ErrGone {
			t.Errorf("its index is there: %.80q, %d", s, e)
		}
		wantAll(t, "room for the pack, and a fall", opened(t, fallen(f)), alone, []string{p}, with(alone, in))
		f.Room(used + len(p) + len(x))
		wantSteps(t, "room for its index", f, opens, with([]string{"syncdir objects"}, layLines(indexAt(p), x))...)
	}
	d.FS().Room(used + len(p) + len(x))
	wantSteps(t, "room for both", d.FS(), adds(p), with(layLines(packAt(p), p), layLines(indexAt(p), x))...)
}

// Promise 15.1, AddPack: other errors of laying a pack or its index are told; the pack is there, once it was laid.
func TestAddHindered(t *testing.T) {
	in := blobs(5, "packed")
	p := packOf(t, in...)
	d := holding(t, nil)
	play(t, d.FS(), "mkdir "+packAt(p))
	wantSteps(t, "a folder in the pack's place", d.FS(), adds(p), layLines(packAt(p), p)...)
	play(t, d.FS(), "remove "+packAt(p), "mkdir "+indexAt(p))
	if n, e := d.AddPack(p); n != 0 || e != api.ErrDir {
		t.Errorf("a folder in the index' place: %d, %d", n, e)
	}
	wantAll(t, "a folder in the index' place", d, nil, []string{p}, in)
	play(t, d.FS(), "remove "+indexAt(p))
	wantAll(t, "no folder, opened again", opened(t, d.FS()), nil, []string{p}, in)
}

// Promise 15.1, AddPack: as many objects as may be.
func TestAddMost(t *testing.T) {
	in := blobs(api.MostItems, "many")
	p := packOf(t, in...)
	d := holding(t, nil)
	wantAdd(t, d, p, api.MostItems)
	wantAll(t, "most", d, nil, []string{p}, in)
}

// Promise 15.1, DropPack: the pack goes, for sure, and then its index; what else is there stays.
func TestDropPack(t *testing.T) {
	alone, in, other := someRaws(), blobs(5, "packed"), blobs(3, "other")
	p, q := packOf(t, with(in, alone[:1])...), packOf(t, with(other, in[:2])...)
	f := holding(t, alone, p, q).FS()
	lines := []string{"remove " + packAt(p), "syncdir packs", "remove " + indexAt(p), "syncdir packs"}
	wantSteps(t, "there", f, drops(p), lines...)
	d := opened(t, f)
	wantErr(t, "there", d.DropPack(wholeOf(p)), api.OK)
	wantAll(t, "gone", d, alone, []string{q}, with(alone, other, in[:2]))
	wantAll(t, "gone, and a fall", opened(t, fallen(f)), alone, []string{q}, with(alone, other, in[:2]))
	wantNoGet(t, "gone", d, sumOf(in[4]), api.ErrGone, false)
	wantErr(t, "gone", d.DropPack(wholeOf(p)), api.ErrGone)

	wantAdd(t, d, p, 6)
	wantAll(t, "added again", d, alone, []string{p, q}, with(alone, in, other))
	wantErr(t, "the other one", d.DropPack(wholeOf(q)), api.OK)
	wantAll(t, "the other one is gone", d, alone, []string{p}, with(alone, in))
	wantErr(t, "again", d.DropPack(wholeOf(p)), api.OK)
	wantAll(t, "both are gone", d, alone, nil, alone)
	if l, e := f.List(packs); e != api.OK || len(l) > 0 {
		t.Errorf("in packs there is still %q, %d", l, e)
	}
}

// Promise 15.1, DropPack: one whose index was not laid.
func TestDropPackNoIndex(t *testing.T) {
	p := packOf(t, blobs(3, "packed")...)
	d := holding(t, nil)
	d.FS().Room(len(p))
	wantAdd(t, d, p, 3)
	wantSteps(t, "no index", d.FS(), drops(p), "remove "+packAt(p), "syncdir packs")
	wantErr(t, "no index", d.DropPack(wholeOf(p)), api.OK)
	wantAll(t, "no index", d, nil, nil, nil)
}

// Promise 15.1, DropPack: what is not there, and sums that are none; nothing is done.
func TestDropPackGone(t *testing.T) {
	in := blobs(3, "packed")
	p, other := packOf(t, in...), packOf(t, blobs(2, "other")...)
	d := holding(t, someRaws(), p)
	ahead := d.FS().Clone()
	for _, sum := range with(noIDs(), []string{wholeOf(other), digitsOf(wholeOf(p)), sumOf(in[0]), sumOf(p), packAt(p), wholeOf(p) + "x", wholeOf(p)[:31]}) {
		wantErr(t, "DropPack", d.DropPack(sum), api.ErrGone)
	}
	wantSame(t, "DropPack", d.FS(), ahead)
	wantAll(t, "DropPack", d, someRaws(), []string{p}, with(someRaws(), in))
}
