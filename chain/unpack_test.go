package chain_test

import (
	"math/rand"
	"slices"
	"strings"
	"testing"

	"pollard/api"
	"pollard/chain"
	"pollard/pack"
	"pollard/sample"
)

// sealed is a pack's bytes with the right sum behind them.
func sealed(body string) string { return body + sumOf(body) }

// Promise 12.1, Unpack: a pack of nothing has no objects, and an index of nothing.
func TestUnpackNone(t *testing.T) {
	p := sealed("pollard pack\n\x00")
	wantUnpack(t, "none", p, nil, nil)
	wantUnpack(t, "none, built", builtOf(t, nil), nil, nil)
}

// builtOf is the pack of items.
func builtOf(t testing.TB, l []api.Item) string {
	t.Helper()
	p, _ := packOf(t, l)
	return p
}

// Promise 12.1, Unpack: known bytes: a blob at 14, and one that is made of it behind it.
func TestUnpackKnown(t *testing.T) {
	one := "blob 24\x00the very same old sample"
	other := "blob 25\x00the very same old sample!"
	made := "\x20\x21\x1eblob 25\x00the very\x1f\x10\x00!"
	// Nothing in them comes again, so each is pressed to its length, its length again, and itself.
	p := sealed("pollard pack\n\x02" + "w\x22\x20\x20" + one + "m" + sumOf(one) + "\x19\x17\x17" + made)
	second := 14 + 4 + len(one)
	wantUnpack(t, "known", p, []string{one, other}, []api.Spot{{ID: sumOf(one), At: 14}, {ID: sumOf(other), At: second}})
	raws, x, _ := chain.Unpack(p)
	if x.Pack() != p[len(p)-32:] {
		t.Errorf("the index is of %x", x.Pack())
	}
	for i, want := range []int{14, second} {
		if at, is := x.Find(sumOf(raws[i])); !is || at != want {
			t.Errorf("%d stands at %d, %v; wanted %d", i, at, is, want)
		}
	}
}

// Promise 12.1, Unpack: pack.Scan's errors, each ahead of what Solve would say.
func TestUnpackScan(t *testing.T) {
	raws := alike(3)
	for _, l := range [][]api.Item{rowItems(raws), {whole("x")}, {whole(raws[0]), whole(raws[0])}, {made("lost", raws[0])}} {
		p := builtOf(t, l)
		body := p[:len(p)-32]
		for n := range len(p) {
			want := api.ErrSpoilt
			if n < 32 {
				want = api.ErrEnd
			}
			wantNoUnpack(t, "cut", p[:n], want)
			b := []byte(p)
			b[n] ^= 1
			wantNoUnpack(t, "turned", string(b), api.ErrSpoilt)
		}
		wantNoUnpack(t, "more", p+"x", api.ErrSpoilt)
		wantNoUnpack(t, "another line", sealed("P"+body[1:]), api.ErrBad)
		wantNoUnpack(t, "a number cut off", sealed(body[:13]+"\x80"), api.ErrEnd)
		wantNoUnpack(t, "too many items", sealed(body[:13]+nums(api.MostItems+1)+body[14:]), api.ErrMuch)
		wantNoUnpack(t, "one more than there are", sealed(body[:13]+string([]byte{body[13] + 1})+body[14:]), api.ErrEnd)
		wantNoUnpack(t, "bytes left", sealed(body+"x"), api.ErrRest)
		wantNoUnpack(t, "another letter", sealed(body[:14]+"x"+body[15:]), api.ErrBad)
	}
	wantNoUnpack(t, "nothing", "", api.ErrEnd)
	wantNoUnpack(t, "long", strings.Repeat("x", api.MostPack+1), api.ErrMuch)
	wantNoUnpack(t, "many items", sealed("pollard pack\n"+nums(api.MostItems+1)), api.ErrMuch)
	wantNoUnpack(t, "much Data", builtMuch(t), api.ErrMuch)
}

// builtMuch is a pack whose Data have more bytes together than may be.
func builtMuch(t testing.TB) string {
	t.Helper()
	p, e := pack.Build(slices.Repeat([]api.Item{whole(strings.Repeat("x", api.MostPlain))}, 17))
	if e != api.OK {
		t.Fatal(e)
	}
	return p
}

// Promise 12.1, Unpack: Solve's errors.
func TestUnpackSolve(t *testing.T) {
	raws := alike(20)
	a := raws[0]
	_, both := ring()
	for what, l := range map[string][]api.Item{
		"too far": rowItems(raws[:14]), "a ring": both, "itself": {made(a, a)}, "lost": {whole(a), made("lost", a)},
		"twin": {whole(a), whole(a)}, "made twin": {whole(a), made(a, a)}, "made again": {whole(a), made(a, raws[1]), made(a, raws[1])},
	} {
		want := api.ErrChain
		if strings.Contains(what, "twin") || what == "made again" {
			want = api.ErrTwin
		}
		wantNoUnpack(t, what, builtOf(t, l), want)
	}
	for text, want := range noObjects() {
		wantNoUnpack(t, "no object", builtOf(t, []api.Item{whole(text)}), want)
		wantNoUnpack(t, "no object is made", builtOf(t, []api.Item{made(a, text), whole(a)}), want)
	}
	for data, want := range wrongDeltas(a) {
		wantNoUnpack(t, "wrong delta", builtOf(t, []api.Item{whole(a), {Base: sumOf(a), Data: data}}), want)
	}
}

// Promise 12.2: whatever bases are chosen, the objects come out as they went in, and each is read by its id.
func TestUnpackAnyBases(t *testing.T) {
	for _, raws := range [][]string{nil, alike(1), someRaws(), alike(60)} {
		n := len(raws)
		for what, base := range map[string]func(i int) int{
			"none": func(i int) int { return -1 }, "the first one": func(i int) int { return 0 }, "the one ahead": func(i int) int { return i - 1 },
			"itself": func(i int) int { return i }, "the one behind": func(i int) int { return i + 1 }, "half": func(i int) int { return i / 2 },
			"the last one": func(i int) int { return n - 1 }, "two ahead": func(i int) int { return i - 2 }, "far": func(i int) int { return i * i },
			"turned": func(i int) int { return n - i }, "great": func(i int) int { return 1<<63 - 1 - i }, "little": func(i int) int { return -1<<63 + i },
		} {
			bases := make([]int, n+3)
			for i := range bases {
				bases[i] = base(i)
			}
			for _, b := range [][]int{bases, bases[:n], bases[:n/2], nil} {
				wantRound(t, what, raws, b)
			}
		}
	}
}

// wantRound wants objects to come out of the pack of their items with these bases, all together and one by one.
func wantRound(t *testing.T, what string, raws []string, bases []int) {
	t.Helper()
	p, l := packOf(t, chain.Items(raws, bases))
	wantUnpack(t, what, p, raws, spotsOf(l, raws))
	_, x, _ := chain.Unpack(p)
	for _, raw := range raws {
		wantRead(t, what, p, x, sumOf(raw), raw, api.OK)
	}
}

// Promise 12.2: bases by chance, of objects that are much alike and of such as are not.
func TestUnpackByChance(t *testing.T) {
	r := rand.New(rand.NewSource(122))
	for range 200 {
		raws := append(someRaws(), alike(70)[10:]...)
		r.Shuffle(len(raws), func(i, k int) { raws[i], raws[k] = raws[k], raws[i] })
		raws = raws[:r.Intn(len(raws))]
		bases := make([]int, r.Intn(len(raws)+10))
		near := 1 + r.Intn(80)
		for i := range bases {
			bases[i] = i - r.Intn(near)
		}
		wantRound(t, "by chance", raws, bases)
	}
}

// Promise 12.2: great objects, and as many as may be.
func TestUnpackGreat(t *testing.T) {
	base := sample.Text(api.MostBody)
	var raws []string
	for i := range 15 {
		raws = append(raws, blob(base[:api.MostBody-i*1000]+strings.Repeat("x", i*1000)))
	}
	bases := make([]int, api.MostItems)
	for i := range bases {
		bases[i] = i - 1
	}
	wantRound(t, "great", raws, bases)
	p, l := packOf(t, chain.Items(alike(api.MostItems), bases))
	wantUnpack(t, "many", p, alike(api.MostItems), spotsOf(l, alike(api.MostItems)))
}

// Promises 12.1 and T5: bytes of a pack that are other ones, with the right sum, are refused as by the chapter's words, or are objects of their ids.
func TestUnpackTurned(t *testing.T) {
	raws := alike(3)
	p := builtOf(t, []api.Item{made(raws[1], raws[0]), whole(raws[1]), made(raws[0], raws[2])})
	told := map[api.Errno]int{}
	for i := range len(p) - 32 {
		for _, turn := range []byte{1, 2, 16, 128, 255} {
			b := []byte(p[:len(p)-32])
			b[i] ^= turn
			told[holdUnpack(t, sealed(string(b)))]++
		}
		told[holdUnpack(t, sealed(p[:i]))]++
	}
	for _, e := range []api.Errno{api.OK, api.ErrChain, api.ErrBad, api.ErrEnd, api.ErrRest} {
		if told[e] == 0 {
			t.Errorf("%d did not come", e)
		}
	}
}

// holdUnpack holds Unpack, and Read of all that is in it, against the slow ones.
func holdUnpack(t *testing.T, p string) api.Errno {
	t.Helper()
	l, want := pack.Scan(p)
	var raws []string
	var spots []api.Spot
	if want == api.OK {
		raws, spots, want = slowSolve(l)
	}
	if want != api.OK {
		wantNoUnpack(t, "held", p, want)
		return want
	}
	wantUnpack(t, "held", p, raws, spots)
	_, x, _ := chain.Unpack(p)
	for i, raw := range raws {
		if spots[i].ID != sumOf(raw) {
			t.Errorf("%x is not the id of %.80q", spots[i].ID, raw)
		}
		wantRead(t, "held", p, x, spots[i].ID, raw, api.OK)
	}
	return api.OK
}

// Promise R2, Unpack: what came out does not hang on what comes out later.
func TestUnpackOwn(t *testing.T) {
	raws := alike(5)
	p, l := packOf(t, rowItems(raws))
	got, x, e := chain.Unpack(p)
	if e != api.OK {
		t.Fatal(e)
	}
	clear(got)
	clear(x.All())
	wantUnpack(t, "again", p, raws, spotsOf(l, raws))
	wantRead(t, "by the first index", p, x, sumOf(raws[4]), raws[4], api.OK)
}

func FuzzUnpack(f *testing.F) {
	raws := someRaws()
	for _, l := range [][]api.Item{nil, {whole(raws[0])}, rowItems(raws[:5]), {made(raws[1], raws[0]), whole(raws[1])}, rowItems(alike(3))} {
		p, e := pack.Build(l)
		if e != api.OK {
			f.Fatal(e)
		}
		f.Add([]byte(p[:len(p)-32]))
	}
	f.Fuzz(func(t *testing.T, body []byte) {
		holdUnpack(t, string(body))
		holdUnpack(t, sealed(string(body)))
	})
}

func BenchmarkUnpack(b *testing.B) {
	bases := make([]int, api.MostItems)
	for i := range bases {
		bases[i] = i - 1
	}
	p := builtOf(b, chain.Items(alike(api.MostItems), bases))
	for range b.N {
		if _, _, e := chain.Unpack(p); e != api.OK {
			b.Fatal(e)
		}
	}
}
