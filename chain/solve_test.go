package chain_test

import (
	"encoding/hex"
	"fmt"
	"math/rand"
	"slices"
	"strings"
	"testing"

	"pollard/api"
	"pollard/chain"
	"pollard/delta"
)

// Promise 12.1, Solve: known bytes: a blob, and one that is made of it, which stands ahead.
func TestSolveKnown(t *testing.T) {
	one := "blob 24\x00the very same old sample"
	id, _ := hex.DecodeString("287d85d40d390fc4b48b9d76d2783cde8e2f19accc6ee3f73018444ba38dc507")
	l := []api.Item{{Base: string(id), Data: "\x20\x21\x1eblob 25\x00the very\x1f\x10\x00!", At: 14}, {Data: one, At: 99}}
	wantSolve(t, "known", l, []string{"blob 25\x00the very same old sample!", one})
}

// Promise 12.1, Solve: no items.
func TestSolveNone(t *testing.T) {
	wantSolve(t, "nil", nil, nil)
	wantSolve(t, "empty", []api.Item{}, nil)
}

// Promise 12.1, Solve: just MostItems, whole and made, and one more, which comes ahead of all else that is wrong.
func TestSolveMost(t *testing.T) {
	raws := alike(api.MostItems + 1)
	for _, by := range []int{0, 1, 12} {
		l := []api.Item{}
		for i, raw := range raws {
			if by == 0 || i%(by+1) == 0 {
				l = append(l, whole(raw))
			} else {
				l = append(l, made(raws[i-1], raw))
			}
		}
		most := l[:api.MostItems]
		wantSolve(t, "most", placed(most), raws[:api.MostItems])
		wantNoSolve(t, "one more", l, api.ErrMuch)
		wantNoSolve(t, "one more, and a wrong one", append(slices.Clone(most), whole("x")), api.ErrMuch)
		wantNoSolve(t, "one more, twice", append(slices.Clone(most), most[0]), api.ErrMuch)
	}
	wantNoSolve(t, "wrong ones", make([]api.Item, api.MostItems+1), api.ErrMuch)
	wantNoSolve(t, "just as many wrong ones", make([]api.Item, api.MostItems), api.ErrBad)
	wantNoSolve(t, "all without their bases", slices.Repeat([]api.Item{made("x", "y")}, api.MostItems+1), api.ErrMuch)
	wantNoSolve(t, "just as many without their bases", slices.Repeat([]api.Item{made("x", "y")}, api.MostItems), api.ErrChain)
}

// Promise 12.1, Solve: objects of all kinds, whole, and each made of each other one, that stands ahead of it or behind it.
func TestSolveKinds(t *testing.T) {
	raws := someRaws()
	all := []api.Item{}
	for i, raw := range raws {
		all = append(all, whole(raw))
		wantSolve(t, "one", placed([]api.Item{whole(raw)}), []string{raw})
		for k, other := range raws {
			if i != k {
				wantSolve(t, "behind its base", placed([]api.Item{whole(other), made(other, raw)}), []string{other, raw})
				wantSolve(t, "ahead of its base", placed([]api.Item{made(other, raw), whole(other)}), []string{raw, other})
			}
		}
	}
	wantSolve(t, "all", placed(all), raws)
}

// Promise 12.1, Solve: the order of the items does not matter for what comes out, but each comes out in its place.
func TestSolveAnyOrder(t *testing.T) {
	raws := alike(4)
	for _, l := range [][]api.Item{
		rowItems(raws),
		{whole(raws[0]), made(raws[0], raws[1]), made(raws[0], raws[2]), made(raws[0], raws[3])},
		{whole(raws[0]), made(raws[0], raws[1]), whole(raws[2]), made(raws[1], raws[3])},
		{made(raws[3], raws[0]), made(raws[0], raws[1]), made(raws[0], raws[2]), whole(raws[3])},
	} {
		for _, order := range orders(4) {
			var items []api.Item
			var want []string
			for _, i := range order {
				items, want = append(items, l[i]), append(want, raws[i])
			}
			wantSolve(t, fmt.Sprint(order), placed(items), want)
		}
	}
}

// orders are all orders of n numbers.
func orders(n int) [][]int {
	if n == 0 {
		return [][]int{nil}
	}
	var all [][]int
	for _, order := range orders(n - 1) {
		for i := range n {
			all = append(all, slices.Insert(slices.Clone(order), i, n-1))
		}
	}
	return all
}

// Promise 12.1, Solve: where items stand is told as it was handed in, whatever it is.
func TestSolvePlaces(t *testing.T) {
	raws := alike(3)
	for _, at := range []int{-1 << 63, -1, 0, 1, api.MostPack, api.MostPack + 1, 1<<63 - 1} {
		l := rowItems(raws)
		for i := range l {
			l[i].At = at
		}
		wantSolve(t, "all at one place", l, raws)
		l = rowItems(raws)
		l[1].At = at
		wantSolve(t, "one at a place", l, raws)
	}
}

// Promise 12.1, Solve: MostChain may lie between one and a whole one, and no more, in whatever order the items stand.
func TestSolveRow(t *testing.T) {
	for n := range 30 {
		raws := alike(n + 1)
		l := rowItems(raws)
		other := alike(200)[150]
		for _, what := range []string{"rising", "falling", "with another one", "with a wrong one at the end"} {
			items, want := slices.Clone(l), slices.Clone(raws)
			switch what {
			case "falling":
				slices.Reverse(items)
				slices.Reverse(want)
			case "with another one":
				items, want = append(items, whole(other)), append(want, other)
			case "with a wrong one at the end":
				if n <= api.MostChain {
					continue // TestSolveWrongDelta has these
				}
				items[api.MostChain+1].Data = "wrong"
			}
			if n > api.MostChain {
				wantNoSolve(t, what, items, api.ErrChain)
			} else {
				wantSolve(t, what, placed(items), want)
			}
		}
	}
}

// Promise 12.1, Solve: how far an item stands is counted along the bases that it has, not by how many items there are.
func TestSolveFar(t *testing.T) {
	raws := alike(30)
	l := rowItems(raws[:13])
	for i := 13; i < 25; i++ {
		l = append(l, made(raws[i-13], raws[i]))
	}
	wantSolve(t, "twigs", placed(l), raws[:25])
	wantNoSolve(t, "a twig too far", append(slices.Clone(l), made(raws[12], raws[25])), api.ErrChain)
	wantNoSolve(t, "a twig of a twig too far", append(slices.Clone(l), made(raws[24], raws[25])), api.ErrChain)
	wantSolve(t, "two rows", placed(append(slices.Clone(l), whole(raws[25]), made(raws[25], raws[26]))), raws[:27])
}

// Promise 12.1, Solve: bases that are not there, no ids at all among them.
func TestSolveNoBase(t *testing.T) {
	raws := alike(3)
	id := sumOf(raws[0])
	for _, base := range []string{sumOf("x"), "x", id[:31], id + "x", id + id, "x" + id, id[1:] + id[:1], strings.Repeat("\x00", 32), strings.Repeat("x", 1<<16)} {
		lost := api.Item{Base: base, Data: delta.Make(raws[0], raws[1])}
		wantNoSolve(t, "alone", []api.Item{lost}, api.ErrChain)
		wantNoSolve(t, "behind", []api.Item{whole(raws[0]), lost}, api.ErrChain)
		wantNoSolve(t, "ahead", []api.Item{lost, whole(raws[0])}, api.ErrChain)
		wantNoSolve(t, "with one that is made of it", []api.Item{whole(raws[0]), lost, made(raws[1], raws[2])}, api.ErrChain)
		wantNoSolve(t, "wrong itself", []api.Item{whole(raws[0]), {Base: base, Data: "wrong"}}, api.ErrChain)
	}
}

// Promise 12.1, Solve: rings: an item that is made of itself, two that are made of each other (the chapter's example), and more.
func TestSolveRings(t *testing.T) {
	for n := 1; n < 20; n++ {
		raws := alike(n + 1)
		var l []api.Item
		for i := range n {
			l = append(l, made(raws[(i+1)%n], raws[i]))
		}
		wantNoSolve(t, "ring", l, api.ErrChain)
		wantNoSolve(t, "ring behind a whole one", append([]api.Item{whole(raws[n])}, l...), api.ErrChain)
		wantNoSolve(t, "ring ahead of a whole one", append(slices.Clone(l), whole(raws[n])), api.ErrChain)
		wantNoSolve(t, "with one made of it", append(slices.Clone(l), made(raws[0], raws[n])), api.ErrChain)
		// With one of them whole beside the ring all are solved, and that one stands twice; unless that is too far.
		want := api.ErrTwin
		if n > api.MostChain {
			want = api.ErrChain
		}
		wantNoSolve(t, "ring with a whole one in it", append(slices.Clone(l), whole(raws[0])), want)
	}
	_, l := ring()
	wantNoSolve(t, "example", l, api.ErrChain)
}

// Promise 12.1, Solve: delta's errors: a base of another length, a text cut off, one of more bytes than may be, and others, near the whole one and far from it.
func TestSolveWrongDelta(t *testing.T) {
	raws := alike(api.MostChain + 2)
	for _, far := range []int{1, 2, api.MostChain} {
		for data, want := range wrongDeltas(raws[far-1]) {
			l := append(rowItems(raws[:far]), api.Item{Base: sumOf(raws[far-1]), Data: data})
			wantNoSolve(t, "wrong", l, want)
			slices.Reverse(l)
			wantNoSolve(t, "wrong, ahead", l, want)
		}
	}
	// One that stands too far is not made at all.
	for data := range wrongDeltas(raws[api.MostChain]) {
		wantNoSolve(t, "too far", append(rowItems(raws[:api.MostChain+1]), api.Item{Base: sumOf(raws[api.MostChain]), Data: data}), api.ErrChain)
	}
}

// Promise 12.1, Solve: a text of just as many bytes as may be made is made, and of one more it is not; a whole one is asked only whether it is an object.
func TestSolveMostBytes(t *testing.T) {
	base := blob("base")
	for _, n := range []int{api.MostBody - 1, api.MostBody} {
		raw := blob(strings.Repeat("x", n))
		wantSolve(t, "whole", placed([]api.Item{whole(raw)}), []string{raw})
		wantSolve(t, "made", placed([]api.Item{whole(base), made(base, raw)}), []string{base, raw})
		wantSolve(t, "made of", placed([]api.Item{whole(raw), made(raw, base)}), []string{raw, base})
	}
	for n, want := range map[int]api.Errno{63: api.ErrBad, 64: api.ErrBad, 65: api.ErrMuch, 66: api.ErrMuch} {
		text := strings.Repeat("x", api.MostBody+n) // no nought: no object
		wantNoSolve(t, "made", []api.Item{whole(base), made(base, text)}, want)
		wantNoSolve(t, "whole", []api.Item{whole(text)}, api.ErrBad)
	}
	wantNoSolve(t, "whole, very long", []api.Item{whole(strings.Repeat("x", 1<<23))}, api.ErrBad)
}

// Promise 12.1, Solve: object.Links' errors, of whole ones and of such as are made.
func TestSolveNoObject(t *testing.T) {
	base := blob("base")
	for text, want := range noObjects() {
		wantNoSolve(t, "whole", []api.Item{whole(text)}, want)
		wantNoSolve(t, "whole, behind", []api.Item{whole(base), whole(text)}, want)
		wantNoSolve(t, "made", []api.Item{whole(base), made(base, text)}, want)
		wantNoSolve(t, "made, ahead", []api.Item{made(base, text), whole(base)}, want)
		wantNoSolve(t, "made of it", []api.Item{whole(text), made(text, base)}, want)
		wantNoSolve(t, "made of one that is made", []api.Item{whole(base), made(base, text), made(text, blob("x"))}, want)
	}
}

// Promise 12.1, Solve: an object that stands twice, whole or made, of one base or of another.
func TestSolveTwin(t *testing.T) {
	raws := someRaws()
	for i, raw := range raws {
		one, other := raws[(i+1)%len(raws)], raws[(i+2)%len(raws)]
		for what, l := range map[string][]api.Item{
			"whole":             {whole(raw), whole(raw)},
			"at another place":  {{Data: raw, At: 1}, {Data: raw, At: 2}},
			"between":           {whole(one), whole(raw), whole(other), whole(raw)},
			"made of it":        {whole(raw), made(raw, raw)},
			"made of it, ahead": {made(raw, raw), whole(raw)},
			"made of another":   {whole(raw), whole(one), made(one, raw)},
			"both made":         {whole(one), made(one, raw), made(one, raw)},
			"made of two":       {whole(one), whole(other), made(one, raw), made(other, raw)},
			"otherwise made":    {whole(one), made(one, raw), {Base: sumOf(one), Data: nums(len(one), len(raw), 2*(len(raw)-1)) + raw}},
			"made again":        {whole(one), made(one, raw), made(raw, one)},
			"made again, ahead": {made(raw, one), whole(one), made(one, raw)},
		} {
			wantNoSolve(t, what, l, api.ErrTwin)
		}
	}
	// One that differs in a byte is another one.
	wantSolve(t, "nearly", placed([]api.Item{whole(blob("a")), whole(blob("b"))}), []string{blob("a"), blob("b")})
}

// Promise 12.1, Solve: of two that are wrong the first one in the order of solving is told: whole ones in their order, then those that wait for the first one solved.
func TestSolveFirst(t *testing.T) {
	raws := alike(20)
	a, b, c := raws[0], raws[1], raws[2]
	kind, end := whole("blop 0\x00"), whole("blob 9\x00")
	kindOf := func(base string) api.Item { return made(base, "blop 0\x00") }
	restOf := func(base string) api.Item { return api.Item{Base: sumOf(base), Data: delta.Make(base, base) + "x"} }
	lost := made("lost", a)
	for _, x := range []struct {
		what string
		l    []api.Item
		want api.Errno
	}{
		{"whole ones in their order", []api.Item{kind, end}, api.ErrKind},
		{"whole ones in the other order", []api.Item{end, kind}, api.ErrEnd},
		{"a twin behind a wrong one", []api.Item{whole(a), kind, whole(a)}, api.ErrKind},
		{"a twin ahead of a wrong one", []api.Item{whole(a), whole(a), kind}, api.ErrTwin},
		{"a whole one ahead of one that is made, though that stands ahead", []api.Item{whole(a), restOf(a), kind}, api.ErrKind},
		{"those of one base in their order", []api.Item{whole(a), restOf(a), kindOf(a)}, api.ErrRest},
		{"those of one base in the other order", []api.Item{whole(a), kindOf(a), restOf(a)}, api.ErrKind},
		{"those of the first base first", []api.Item{whole(a), whole(b), kindOf(b), restOf(a)}, api.ErrRest},
		{"those of the first base first, wherever", []api.Item{kindOf(b), restOf(a), whole(a), whole(b)}, api.ErrRest},
		{"those of the base that is solved first", []api.Item{kindOf(b), restOf(a), whole(b), whole(a)}, api.ErrKind},
		{"near ones ahead of far ones", []api.Item{whole(a), made(a, c), restOf(c), whole(b), kindOf(b)}, api.ErrKind},
		{"near ones ahead of far ones, the other way round", []api.Item{whole(a), made(a, c), kindOf(c), whole(b), restOf(b)}, api.ErrRest},
		{"far ones by when their bases are solved", []api.Item{whole(a), made(a, c), made(a, b), restOf(b), kindOf(c)}, api.ErrKind},
		{"far ones by when their bases are solved, the other way round", []api.Item{whole(a), made(a, b), made(a, c), restOf(b), kindOf(c)}, api.ErrRest},
		{"far ones of two rows", []api.Item{whole(b), whole(a), made(a, c), made(b, raws[3]), restOf(c), kindOf(raws[3])}, api.ErrKind},
		{"what is left comes last", []api.Item{lost, whole(a), kindOf(a)}, api.ErrKind},
		{"what is left comes behind a twin", []api.Item{lost, whole(a), made(a, a)}, api.ErrTwin},
		{"what is left comes behind delta's", []api.Item{lost, whole(a), restOf(a)}, api.ErrRest},
		{"delta's ahead of a twin at another one", []api.Item{whole(a), restOf(a), made(a, a)}, api.ErrRest},
		{"a twin ahead of delta's at another one", []api.Item{whole(a), made(a, a), restOf(a)}, api.ErrTwin},
		{"what waits for a wrong one is never asked", []api.Item{whole("blob 9\x00"), restOf("blob 9\x00")}, api.ErrEnd},
	} {
		if _, _, e := slowSolve(x.l); e != x.want {
			t.Errorf("%s: by the words it is %d, not %d", x.what, e, x.want)
		}
		wantNoSolve(t, x.what, x.l, x.want)
	}
}

// Promise 12.1, Solve: ErrChain of one that stands too far comes when its turn comes: ahead of what else is wrong with it, behind what is wrong with those ahead of it.
func TestSolveFarFirst(t *testing.T) {
	raws := alike(40)
	far := rowItems(raws[:14])
	for what, last := range map[string]api.Item{
		"delta's": {Base: sumOf(raws[12]), Data: ""}, "no object": made(raws[12], "x"), "twin": made(raws[12], raws[0]), "right": far[13],
	} {
		l := append(slices.Clone(far[:13]), last)
		wantNoSolve(t, what, l, api.ErrChain)
		wantNoSolve(t, what+", with a twin nearer", append(l, made(raws[11], raws[0])), api.ErrTwin)
		wantNoSolve(t, what+", with a wrong one nearer", append(l, made(raws[11], "x")), api.ErrBad)
		wantNoSolve(t, what+", with a wrong one as far, behind", append(l, made(raws[12], "x")), api.ErrChain)
		wantNoSolve(t, what+", with one that is left", append([]api.Item{made("lost", raws[20])}, l...), api.ErrChain)
	}
	// Of two rows that are too long none is told ahead of a wrong one that stands as far as may be.
	two := append(slices.Clone(far), rowItems(raws[20:32])...)
	wantNoSolve(t, "two rows", append(two, made(raws[31], "blop 0\x00")), api.ErrKind)
}

// Promise 12.1, Solve: items by chance, right ones and wrong ones, as by the chapter's words.
func TestSolveByChance(t *testing.T) {
	r := rand.New(rand.NewSource(12))
	told := map[api.Errno]int{}
	for range 4000 {
		l := itemsByChance(r)
		told[holdSolve(t, "by chance", l)]++
	}
	for _, e := range []api.Errno{api.OK, api.ErrChain, api.ErrTwin, api.ErrBad, api.ErrEnd, api.ErrRest, api.ErrKind} {
		if told[e] < 20 {
			t.Errorf("%d came %d times", e, told[e])
		}
	}
}

// itemsByChance are items in any order, mostly right ones, of which many are made of one another.
func itemsByChance(r *rand.Rand) []api.Item {
	raws := alike(1 + r.Intn(40))
	near := 1 + r.Intn(len(raws))
	var l []api.Item
	far := make([]int, len(raws))
	for i, raw := range raws {
		base := max(0, i-1-r.Intn(near))
		if i == 0 || r.Intn(8) == 0 || far[base] >= 12 && r.Intn(4) > 0 {
			l = append(l, whole(raw))
			continue
		}
		far[i] = far[base] + 1
		l = append(l, made(raws[base], raw))
	}
	wrong := []string{"", "x", "blop 0\x00", "blob 9\x00", "blob 0\x00x", raws[0]}
	for range max(0, r.Intn(8)-4) {
		base := raws[r.Intn(len(raws))]
		text := wrong[r.Intn(len(wrong))]
		x := []api.Item{whole(text), made(base, text), {Base: sumOf(base), Data: text}, made(text, base), made(base, base)}[r.Intn(5)]
		l[r.Intn(len(l))] = x
	}
	r.Shuffle(len(l), func(i, k int) { l[i], l[k] = l[k], l[i] })
	return placed(l)
}

// Promises 12.1 and R2, Solve: what was handed in stays as it was, and what came out does not hang on it.
func TestSolveOwn(t *testing.T) {
	raws := alike(10)
	l := placed(rowItems(raws))
	items := slices.Clone(l)
	got, spots, e := chain.Solve(items)
	if e != api.OK || !slices.Equal(items, l) {
		t.Error("what was handed in is another", e)
	}
	clear(items)
	if !slices.Equal(got, raws) || !slices.Equal(spots, spotsOf(l, raws)) {
		t.Error("what came out changed with what was handed in")
	}
	clear(got)
	clear(spots)
	wantSolve(t, "again", l, raws)
}

func BenchmarkSolve(b *testing.B) {
	raws := alike(api.MostItems)
	bases := make([]int, len(raws))
	for i := range bases {
		bases[i] = i - 1
	}
	l := chain.Items(raws, bases)
	for range b.N {
		if _, _, e := chain.Solve(l); e != api.OK {
			b.Fatal(e)
		}
	}
}
