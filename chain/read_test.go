package chain_test

import (
	"fmt"
	"math/rand"
	"slices"
	"strings"
	"testing"

	"pollard/api"
	"pollard/chain"
	"pollard/index"
	"pollard/pack"
)

// Promise 12.1, Read: each object by its id, whole and made, of any kind, ahead of its base and behind it.
func TestReadEach(t *testing.T) {
	raws := someRaws()
	for what, l := range map[string][]api.Item{
		"whole":   chain.Items(raws, nil),
		"of one":  chain.Items(raws, make([]int, len(raws))),
		"in rows": chain.Items(raws, []int{-1, 0, 1, 2, 3, 4, 5, 6, 7, 8, 9, 10, 11, 12, 13, 14, 15, 16, 17, 18}),
	} {
		for _, turned := range []bool{false, true} {
			l, raws := slices.Clone(l), slices.Clone(raws)
			if turned {
				slices.Reverse(l)
				slices.Reverse(raws)
			}
			p, x := knowing(t, l, raws)
			for _, raw := range raws {
				wantRead(t, what, p, x, sumOf(raw), raw, api.OK)
			}
		}
	}
}

// Promise 12.1, Read: an id that the index does not know, what is no id, a nil index and one of nothing.
func TestReadGone(t *testing.T) {
	raws := alike(5)
	p, x := knowing(t, rowItems(raws), raws)
	id := sumOf(raws[0])
	for _, other := range []string{"", "x", id[:31], id + "x", id + id, "x" + id, id[1:] + id[:1], sumOf("x"), sumOf(p), x.Pack(), strings.Repeat("\x00", 32), strings.Repeat("\xff", 32), strings.Repeat("x", 1<<16)} {
		wantRead(t, "another id", p, x, other, "", api.ErrGone)
		wantRead(t, "another id, no pack", "", x, other, "", api.ErrGone)
	}
	none := indexOf(t, p, nil)
	for _, raw := range raws {
		wantRead(t, "nil", p, nil, sumOf(raw), "", api.ErrGone)
		wantRead(t, "nil, no pack", "", nil, sumOf(raw), "", api.ErrGone)
		wantRead(t, "none", p, none, sumOf(raw), "", api.ErrGone)
		wantRead(t, "zero", p, &index.Index{}, sumOf(raw), "", api.ErrGone)
	}
	wantRead(t, "nil, no id", p, nil, "", "", api.ErrGone)
}

// Promise 12.1, Read: a base that the index does not know, however far it is; who does not need it is read.
func TestReadBaseGone(t *testing.T) {
	raws := alike(api.MostChain + 1)
	p, l := packOf(t, rowItems(raws))
	spots := spotsOf(l, raws)
	for lost := range raws {
		x := indexOf(t, p, slices.Delete(slices.Clone(spots), lost, lost+1))
		for i, raw := range raws {
			if i < lost {
				wantRead(t, "without a later one", p, x, sumOf(raw), raw, api.OK)
			} else {
				wantRead(t, "without a base", p, x, sumOf(raw), "", api.ErrGone)
			}
		}
	}
}

// Promise 12.1, Read: pack.One's errors, at the item and at a base.
func TestReadOne(t *testing.T) {
	raws := alike(3)
	for _, bad := range []struct {
		item string
		want api.Errno
	}{
		{"x", api.ErrBad}, {"w", api.ErrEnd}, {"m" + sumOf(raws[0])[:20], api.ErrEnd}, {"w\x80", api.ErrEnd}, {"w" + strings.Repeat("\x80", 9), api.ErrBad},
		{"w\x7f", api.ErrEnd}, {"w\x02\x03\x03", api.ErrEnd}, {"w\x04\x01\x01ab", api.ErrRest}, {"m" + sumOf(raws[0]) + "\x03\x01\x02a", api.ErrBad}, {"m" + sumOf("lost") + "\x01\x05", api.ErrEnd},
	} {
		first, _ := pack.Build([]api.Item{made(raws[0], raws[1]), made(raws[1], raws[2])})
		body := first[:len(first)-32]
		p := body + bad.item + strings.Repeat("\x00", 32)
		l, e := pack.Scan(first)
		if e != api.OK {
			t.Fatal(e)
		}
		x := indexOf(t, p, []api.Spot{{ID: sumOf(raws[0]), At: len(body)}, {ID: sumOf(raws[1]), At: l[0].At}, {ID: sumOf(raws[2]), At: l[1].At}})
		for i, raw := range raws {
			wantRead(t, fmt.Sprintf("%q, %d ahead", bad.item, i), p, x, sumOf(raw), "", bad.want)
		}
	}
}

// Promise 12.1, Read: places at which no item can stand, and a text that is no pack.
func TestReadAsk(t *testing.T) {
	raws := alike(2)
	p, l := packOf(t, rowItems(raws))
	for _, at := range []int{len(p) - 32, len(p) - 1, len(p), len(p) + 1, api.MostPack} {
		x := indexOf(t, p, []api.Spot{{ID: sumOf(raws[0]), At: at}, {ID: sumOf(raws[1]), At: l[1].At}})
		for _, raw := range raws {
			wantRead(t, "place", p, x, sumOf(raw), "", api.ErrAsk)
		}
	}
	x := indexOf(t, p, spotsOf(l, raws))
	for n := range l[0].At + 32 {
		wantRead(t, "short", p[:n], x, sumOf(raws[0]), "", api.ErrAsk)
		wantRead(t, "short", p[:n], x, sumOf(raws[1]), "", api.ErrAsk)
	}
}

// Promise 12.1, Read: just MostChain bases, and more.
func TestReadRow(t *testing.T) {
	raws := alike(40)
	for _, turned := range []bool{false, true} {
		l, texts := rowItems(raws), slices.Clone(raws)
		if turned {
			slices.Reverse(l)
			slices.Reverse(texts)
		}
		p, x := knowing(t, l, texts)
		for i, raw := range raws {
			if i <= api.MostChain {
				wantRead(t, fmt.Sprint(i), p, x, sumOf(raw), raw, api.OK)
			} else {
				wantRead(t, fmt.Sprint(i), p, x, sumOf(raw), "", api.ErrChain)
			}
		}
	}
	// As many as may be.
	raws = alike(api.MostItems)
	p, x := knowing(t, rowItems(raws), raws)
	wantRead(t, "all in one row", p, x, sumOf(raws[len(raws)-1]), "", api.ErrChain)
	wantRead(t, "all in one row", p, x, sumOf(raws[api.MostChain]), raws[api.MostChain], api.OK)
}

// Promise 12.1, Read: rings: of one, of two (the chapter's example), of more than MostChain, and such as lead into one.
func TestReadRings(t *testing.T) {
	for _, n := range []int{1, 2, 3, 11, 12, 13, 14, 40, 200} {
		raws := alike(n + 3)
		var l []api.Item
		for i := range n {
			l = append(l, made(raws[(i+1)%n], raws[i]))
		}
		l = append(l, made(raws[0], raws[n]), made(raws[n], raws[n+1]), whole(raws[n+2]))
		p, x := knowing(t, l, raws)
		for _, raw := range raws[:n+2] {
			wantRead(t, fmt.Sprint("ring of ", n), p, x, sumOf(raw), "", api.ErrChain)
		}
		wantRead(t, "beside the ring", p, x, sumOf(raws[n+2]), raws[n+2], api.OK)
	}
}

// Promise 12.1, Read: delta's errors, at the item itself and at one of its bases.
func TestReadWrongDelta(t *testing.T) {
	raws := alike(api.MostChain + 3)
	for _, far := range []int{1, 2, api.MostChain} {
		for data, want := range wrongDeltas(raws[far-1]) {
			l := rowItems(raws[:api.MostChain+1])
			l[far].Data = data
			p, x := knowing(t, l, raws[:api.MostChain+1])
			for i, raw := range raws[:api.MostChain+1] {
				if i < far {
					wantRead(t, "ahead of the wrong one", p, x, sumOf(raw), raw, api.OK)
				} else {
					wantRead(t, "of the wrong one", p, x, sumOf(raw), "", want)
				}
			}
		}
	}
}

// Promise 12.1, Read: of two wrong deltas that is told which is nearer to the whole one, since it is made first.
func TestReadWrongDeltas(t *testing.T) {
	raws := alike(4)
	l := rowItems(raws)
	l[1].Data += "x"
	l[2].Data = ""
	p, x := knowing(t, l, raws)
	wantRead(t, "both", p, x, sumOf(raws[3]), "", api.ErrRest)
	l[1], l[2] = made(raws[0], raws[1]), api.Item{Base: sumOf(raws[1]), Data: ""}
	l[3].Data += "x"
	p, x = knowing(t, l, raws)
	wantRead(t, "both, the other way round", p, x, sumOf(raws[3]), "", api.ErrEnd)
}

// Promise 12.1, Read: a text of just as many bytes as may be made, and of one more; it is asked for its id alone, not whether it is an object.
func TestReadMostBytes(t *testing.T) {
	base := blob("base")
	for n, want := range map[int]api.Errno{0: api.OK, 63: api.OK, 64: api.OK, 65: api.ErrMuch, 66: api.ErrMuch} {
		text := strings.Repeat("x", api.MostBody+n)
		p, x := knowing(t, []api.Item{whole(base), made(base, text)}, []string{base, text})
		if want == api.OK {
			wantRead(t, "made", p, x, sumOf(text), text, api.OK)
		} else {
			wantRead(t, "made", p, x, sumOf(text), "", want)
		}
		p, x = knowing(t, []api.Item{whole(text), made(text, base)}, []string{text, base})
		wantRead(t, "whole", p, x, sumOf(text), text, api.OK)
		wantRead(t, "made of it", p, x, sumOf(base), base, api.OK)
	}
	// A base on the way may not have more either.
	text := strings.Repeat("x", api.MostBody+65)
	p, x := knowing(t, []api.Item{whole(base), made(base, text), made(text, blob("end"))}, []string{base, text, blob("end")})
	wantRead(t, "on the way", p, x, sumOf(blob("end")), "", api.ErrMuch)
}

// Promise 12.1, Read: what is not that of its id: another item's place, a base that is another one of the same length, an item that makes another text.
func TestReadSpoilt(t *testing.T) {
	raws := alike(4)
	a, b, c, d := raws[0], raws[1], raws[2], raws[3]
	p, x := knowing(t, []api.Item{whole(a), whole(b)}, []string{b, a})
	wantRead(t, "exchanged", p, x, sumOf(a), "", api.ErrSpoilt)
	wantRead(t, "exchanged", p, x, sumOf(b), "", api.ErrSpoilt)
	p, x = knowing(t, []api.Item{whole(d), made(a, b), made(a, c)}, []string{a, b, c})
	wantRead(t, "another base", p, x, sumOf(a), "", api.ErrSpoilt)
	wantRead(t, "of another base", p, x, sumOf(b), b, api.OK) // it takes nothing of the base in which that differs
	l := []api.Item{whole(blob("first, 16 bytes. second, 16 bytes."))}
	base, other := blob("first, 16 bytes. second, 16 bytes!"), blob("first, 16 bytes. second, 16 bytes! more")
	p, x = knowing(t, append(l, made(base, other)), []string{base, other})
	wantRead(t, "another base, whose bytes are taken", p, x, sumOf(other), "", api.ErrSpoilt)
	p, x = knowing(t, []api.Item{whole(a), made(a, d)}, []string{a, b})
	wantRead(t, "makes another text", p, x, sumOf(b), "", api.ErrSpoilt)
	p, x = knowing(t, []api.Item{whole("")}, []string{a})
	wantRead(t, "nothing", p, x, sumOf(a), "", api.ErrSpoilt)
	p, x = knowing(t, []api.Item{whole(a + "x"), made(a, b)}, []string{a, b})
	wantRead(t, "longer", p, x, sumOf(a), "", api.ErrSpoilt)
	wantRead(t, "of a longer one", p, x, sumOf(b), "", api.ErrBad)
}

// Promise 12.1, Read: which error comes first where several are to be had: ErrGone, One's, ErrChain, delta's, ErrSpoilt.
func TestReadFirst(t *testing.T) {
	raws := alike(30)
	l := rowItems(raws)
	for i := 1; i < len(l); i++ {
		l[i].Data = "wrong" // each delta is wrong, too
	}
	p, l := packOf(t, l)
	spots := spotsOf(l, raws)
	last := sumOf(raws[29])
	wantRead(t, "ErrChain ahead of delta's", p, indexOf(t, p, spots), last, "", api.ErrChain)
	wantRead(t, "delta's", p, indexOf(t, p, spots), sumOf(raws[12]), "", api.ErrBad)
	for _, i := range []int{0, 10, 15, 16, 17, 20, 28, 29} {
		x := indexOf(t, p, slices.Delete(slices.Clone(spots), i, i+1))
		wantRead(t, fmt.Sprint("ErrGone ahead of ErrChain, without ", i), p, x, last, "", api.ErrGone)
		other := slices.Clone(spots)
		other[i].At = api.MostPack
		wantRead(t, fmt.Sprint("One's ahead of ErrChain, at ", i), p, indexOf(t, p, other), last, "", api.ErrAsk)
		other[i].At = 3
		wantRead(t, fmt.Sprint("One's ahead of ErrChain, at ", i), p, indexOf(t, p, other), last, "", api.ErrBad)
	}
	// Delta's comes ahead of ErrSpoilt.
	pair := alike(2)
	p, x := knowing(t, []api.Item{whole(pair[1]), {Base: sumOf(pair[0]), Data: "wrong"}}, pair)
	wantRead(t, "delta's ahead of ErrSpoilt", p, x, sumOf(pair[1]), "", api.ErrBad)
}

// Promise 12.1, Read: the items alone that it needs are asked for: not the pack's sum, nor its line, nor other items, nor of which pack the index is.
func TestReadAlone(t *testing.T) {
	raws := alike(3)
	p, l := packOf(t, []api.Item{whole(raws[0]), made(raws[0], raws[1]), whole(raws[2])})
	spots := spotsOf(l, raws)
	for i := range len(p) {
		if i >= l[0].At && i < l[2].At {
			continue
		}
		b := []byte(p)
		b[i] ^= 255
		x := indexOf(t, "another pack"+p[:32], spots)
		wantRead(t, "turned", string(b), x, sumOf(raws[0]), raws[0], api.OK)
		wantRead(t, "turned", string(b), x, sumOf(raws[1]), raws[1], api.OK)
	}
}

// Promise 12.1, Read: packs and indexes by chance, as by the chapter's words.
func TestReadByChance(t *testing.T) {
	r := rand.New(rand.NewSource(121))
	told := map[api.Errno]int{}
	for range 600 {
		raws := alike(40)
		items := itemsByChance(r)
		p, l := packOf(t, items)
		var spots []api.Spot
		got, where, e := slowSolve(l)
		for i, x := range l {
			switch {
			case e == api.OK && r.Intn(30) > 0:
				spots = append(spots, where[i])
			case e == api.OK:
				spots = append(spots, api.Spot{ID: sumOf(got[i]), At: r.Intn(len(p))})
			case x.Base == "" && r.Intn(20) > 0:
				spots = append(spots, api.Spot{ID: sumOf(x.Data), At: x.At})
			case r.Intn(20) > 0:
				spots = append(spots, api.Spot{ID: sumOf(raws[r.Intn(40)]), At: x.At})
			}
		}
		slices.SortFunc(spots, func(a, b api.Spot) int { return strings.Compare(a.ID, b.ID) })
		spots = slices.CompactFunc(spots, func(a, b api.Spot) bool { return a.ID == b.ID })
		if r.Intn(3) == 0 && len(spots) > 0 {
			spots = slices.Delete(spots, 0, 1)
		}
		x := indexOf(t, p, spots)
		for _, raw := range raws {
			want, e := slowRead(p, x, sumOf(raw))
			wantRead(t, "by chance", p, x, sumOf(raw), want, e)
			told[e]++
		}
	}
	for _, e := range []api.Errno{api.OK, api.ErrGone, api.ErrChain, api.ErrSpoilt, api.ErrBad} {
		if told[e] < 20 {
			t.Errorf("%d came %d times", e, told[e])
		}
	}
}

// Promises 12.1 and R2, Read: the index stays as it was, and the same is answered again.
func TestReadOwn(t *testing.T) {
	raws := alike(13)
	p, x := knowing(t, rowItems(raws), raws)
	ahead := x.Encode()
	for range 3 {
		for _, raw := range raws {
			wantRead(t, "again", p, x, sumOf(raw), raw, api.OK)
		}
	}
	if x.Encode() != ahead {
		t.Error("the index is another")
	}
}

func BenchmarkRead(b *testing.B) {
	raws := alike(api.MostChain + 1)
	p, x := knowing(b, rowItems(raws), raws)
	id := sumOf(raws[api.MostChain])
	for range b.N {
		if _, e := chain.Read(p, x, id); e != api.OK {
			b.Fatal(e)
		}
	}
}
