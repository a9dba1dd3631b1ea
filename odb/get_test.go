package odb_test

import (
	"slices"
	"testing"

	"pollard/api"
	"pollard/odb"
)

// Promise 15.1, Get and Has: objects by themselves, in a pack, in both, and in two packs.
func TestGetEach(t *testing.T) {
	alone, both, in, twice := someRaws(), blobs(3, "both"), blobs(20, "packed"), blobs(3, "twice")
	added := []string{packOf(t, with(in, both)...), packOf(t, with(twice, both)...), packOf(t, twice...)}
	d := holding(t, with(alone, both), added...)
	wantAll(t, "each", d, with(alone, both), added, with(alone, both, in, twice))
	wantAll(t, "each, opened again", opened(t, d.FS()), with(alone, both), added, with(alone, both, in, twice))
}

// Promise 15.1, Get and Has: what is nowhere, and ids that are none.
func TestGetGone(t *testing.T) {
	for what, d := range map[string]*odb.DB{"none": holding(t, nil), "some": holding(t, someRaws(), packOf(t, blobs(3, "packed")...))} {
		for _, id := range noIDs() {
			wantNoGet(t, what, d, id, api.ErrGone, false)
		}
		for _, p := range d.Packs() {
			wantNoGet(t, what, d, p, api.ErrGone, false)
		}
		for _, raw := range blobs(4, "packed")[3:] {
			wantNoGet(t, what, d, sumOf(raw), api.ErrGone, false)
		}
	}
}

// Promise 15.1, Get: an object whose file is spoilt is told as such, if it is in no pack; Has, IDs and Loose tell of the file.
func TestGetSpoilt(t *testing.T) {
	raws := someRaws()
	raw := raws[1]
	p := packOf(t, with(blobs(3, "packed"), []string{raw})...)
	for _, bytes := range []string{"", "x", raw, pressed(t, raws[2]), pressed(t, raw+"x")} {
		d := holding(t, raws)
		play(t, d.FS(), "write "+aloneAt(raw)+" "+bytes)
		wantNoGet(t, "spoilt", d, sumOf(raw), api.ErrSpoilt, true)
		wantList(t, "IDs", d.IDs(), idsOf(raws))
		wantList(t, "Loose", d.Loose(), idsOf(raws))
		wantGet(t, "the others", d, slices.Delete(slices.Clone(raws), 1, 2)...)

		// A pack has it, too: it is there.
		wantAdd(t, d, p, 4)
		wantGet(t, "in a pack, too", d, raw)
		wantGet(t, "in a pack, too, opened again", opened(t, d.FS()), raw)
		wantErr(t, "DropPack", d.DropPack(wholeOf(p)), api.OK)
		wantNoGet(t, "in a pack no more", d, sumOf(raw), api.ErrSpoilt, true)
	}
}

// Promise 15.1, Get: an object by itself is asked for ahead of packs.
func TestGetAloneFirst(t *testing.T) {
	in := blobs(3, "packed")
	p := packOf(t, in...)
	d := holding(t, in[:1], p)
	play(t, d.FS(), "write "+indexAt(p)+" "+indexOf(t, p, []api.Spot{{ID: sumOf(in[0]), At: 1}, {ID: sumOf(in[1]), At: 1}}))
	d = opened(t, d.FS())
	wantGet(t, "alone", d, in[0])
	wantNoGet(t, "in the pack alone", d, sumOf(in[1]), api.ErrBad, true)
	wantErr(t, "DropLoose", d.DropLoose(idsOf(in[:1])), api.OK)
	wantNoGet(t, "no more alone", d, sumOf(in[0]), api.ErrBad, true)
}

// Promises 15.1 and R4, Get: of several packs the first one, by their sums, whose index has it: what that one tells, right or wrong.
func TestGetFirstPack(t *testing.T) {
	raw := blob("in all of them")
	var added []string
	for _, other := range blobs(6, "other") {
		added = append(added, packOf(t, other, raw))
	}
	byHand := holding(t, nil, added...).FS()
	slices.SortFunc(added, func(a, b string) int { return slices.Compare([]byte(wholeOf(a)), []byte(wholeOf(b))) })
	for wrong, p := range added {
		f := byHand.Clone()
		spots := spotsOf(t, p)
		for i := range spots {
			spots[i].At = 1
		}
		play(t, f, "write "+indexAt(p)+" "+indexOf(t, p, spots))
		d := opened(t, f)
		for i, q := range added {
			for range 3 {
				if i == wrong {
					wantNoGet(t, "the first is wrong", d, sumOf(raw), api.ErrBad, true)
				} else {
					wantGet(t, "another one is wrong", d, raw)
				}
			}
			wantErr(t, "DropPack", d.DropPack(wholeOf(q)), api.OK)
		}
		wantNoGet(t, "in none", d, sumOf(raw), api.ErrGone, false)
	}
}

// Promise 15.1, Get: a pack whose index does not have it is not asked, though its bytes do.
func TestGetIndexSays(t *testing.T) {
	in := blobs(3, "packed")
	p, other := packOf(t, in...), packOf(t, with(in, blobs(1, "other"))...)
	f := holding(t, nil, p, other).FS()
	play(t, f, "write "+indexAt(p)+" "+indexOf(t, p, nil), "write "+indexAt(other)+" "+indexOf(t, other, nil))
	wantAll(t, "neither", opened(t, f), nil, []string{p, other}, nil)
	for _, x := range []string{p, other} {
		g := f.Clone()
		play(t, g, "write "+indexAt(x)+" "+trueIndex(t, x))
		wantGet(t, "one of them", opened(t, g), in...)
	}
}

// Promise 15.1, IDs, Packs and Loose: all, rising, each once.
func TestLists(t *testing.T) {
	alone, in := blobs(40, "alone"), blobs(60, "packed")
	added := []string{packOf(t, in[:30]...), packOf(t, in[20:]...), packOf(t, with(alone[:10], in[50:])...), packOf(t)}
	d := holding(t, alone, added...)
	for range 3 {
		wantAll(t, "lists", d, alone, added, with(alone, in))
	}
}

// Promise R2, IDs, Packs and Loose: what is done to a list changes nothing.
func TestListsOwn(t *testing.T) {
	alone, in := blobs(3, "alone"), blobs(3, "packed")
	p := packOf(t, in...)
	d := holding(t, alone, p)
	for _, l := range [][]string{d.IDs(), d.Packs(), d.Loose()} {
		clear(l)
	}
	ids := idsOf(alone[:1])
	wantErr(t, "DropLoose", d.DropLoose(ids), api.OK)
	wantList(t, "what was handed in", ids, idsOf(alone[:1]))
	wantAll(t, "lists", d, alone[1:], []string{p}, with(alone[1:], in))
}

// stillDBs are such as can tell nothing.
func stillDBs(t *testing.T) map[string]*odb.DB {
	t.Helper()
	d, none := holding(t, someRaws(), packOf(t, blobs(3, "packed")...)), holding(t, nil)
	d.FS().Crash(1<<62-1, 0)
	none.FS().Crash(0, 0)
	return map[string]*odb.DB{"nil": nil, "zero": {}, "dead": d, "dead, of nothing": none}
}

// Promise 15.1: a nil one, and one whose place has no power: ErrStill, and nothing.
func TestStill(t *testing.T) {
	p := packOf(t, blobs(3, "packed")...)
	for what, d := range stillDBs(t) {
		for _, raw := range with(someRaws(), blobs(4, "packed")) {
			wantNoGet(t, what, d, sumOf(raw), api.ErrStill, false)
			wantNoPut(t, d, raw, api.ErrStill)
		}
		for _, id := range noIDs() {
			wantNoGet(t, what, d, id, api.ErrStill, false)
		}
		for _, x := range []string{p, packOf(t), "", "x", p[1:]} {
			wantNoAdd(t, what, d, x, api.ErrStill)
		}
		for _, sum := range []string{wholeOf(p), "", "x", sumOf("x")} {
			wantErr(t, what+": DropPack", d.DropPack(sum), api.ErrStill)
		}
		for _, ids := range [][]string{nil, idsOf(someRaws()), {"x"}, noIDs()} {
			wantErr(t, what+": DropLoose", d.DropLoose(ids), api.ErrStill)
		}
		if len(d.IDs())+len(d.Packs())+len(d.Loose()) > 0 {
			t.Error(what, "it tells of something")
		}
	}
	if (*odb.DB)(nil).FS() != nil {
		t.Error("a nil one is kept somewhere")
	}
}

// Promise 15.1: one whose place had no power for a while, and lost nothing, tells the same as ahead.
func TestStillNoMore(t *testing.T) {
	alone, in := someRaws(), blobs(3, "packed")
	p := packOf(t, in...)
	d := holding(t, alone, p)
	d.FS().Crash(0, 0)
	if len(d.IDs()) != 0 {
		t.Error("it tells of something without power")
	}
	d.FS().Up()
	wantAll(t, "with power again", d, alone, []string{p}, with(alone, in))
}
