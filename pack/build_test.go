package pack_test

import (
	"encoding/hex"
	"slices"
	"strings"
	"testing"

	"pollard/api"
	"pollard/pack"
	"pollard/sample"
)

// wantBuild wants the pack that the chapter's words tell, and promise 10.2: its items again, of Scan and of One.
func wantBuild(t *testing.T, l []api.Item) {
	t.Helper()
	want, p := placed(l)
	given := slices.Clone(l)
	got, e := pack.Build(l)
	if e != api.OK || got != p {
		t.Errorf("Build of %d items: %.120q, %d; wanted %.120q", len(l), got, e, p)
	}
	if !slices.Equal(l, given) {
		t.Error("Build changed what it was given")
	}
	wantScan(t, got, want)
	for _, x := range want {
		wantOne(t, got, x.At, x, api.OK)
	}
	if s, e := pack.Sum(got); e != api.OK || s != got[max(len(got)-api.IDBytes, 0):] {
		t.Errorf("Sum of %d items: %x, %d", len(l), s, e)
	}
}

func wantNoBuild(t *testing.T, want api.Errno, l ...api.Item) {
	t.Helper()
	if p, e := pack.Build(l); e != want || p != "" {
		t.Errorf("Build of %d items %.200s: %d bytes, %d; wanted %d", len(l), show(l...), len(p), e, want)
	}
}

// Promise 10.1, Build, with the chapter's example: packs that are written out.
func TestBuildKnown(t *testing.T) {
	for _, c := range []struct {
		l         []api.Item
		body, sum string
	}{
		{nil, "pollard pack\n\x00", "aa8b0bffc663059c58a947c0134271a49afc3e647530eb0f74cdb9edfd063eac"},
		{[]api.Item{}, "pollard pack\n\x00", "aa8b0bffc663059c58a947c0134271a49afc3e647530eb0f74cdb9edfd063eac"},
		{
			[]api.Item{{Data: "one"}, {Base: idOf('i'), Data: "aaaaaaaa"}},
			"pollard pack\n\x02w\x05\x03\x03onem" + strings.Repeat("i", 32) + "\x05\x08\x01a\x01\x03",
			"b1afdc00d99c24bdf5582a649e1605fe52cc420a1e4039ec70ef797791d81bae",
		},
	} {
		sum, _ := hex.DecodeString(c.sum)
		if p, e := pack.Build(c.l); e != api.OK || p != c.body+string(sum) {
			t.Errorf("Build(%s): %q, %d", show(c.l...), p, e)
		}
		if s, e := pack.Sum(c.body + string(sum)); e != api.OK || s != string(sum) {
			t.Errorf("Sum(%q): %x, %d", c.body, s, e)
		}
		wantBuild(t, c.l)
	}
	wantScan(t, sealed("pollard pack\n\x02w\x05\x03\x03onem"+idOf('i')+"\x05\x08\x01a\x01\x03"), []api.Item{{Data: "one", At: 14}, {Base: idOf('i'), Data: "aaaaaaaa", At: 21}})
}

// Promises 10.1 and 10.2: items of many kinds, each alone, with a neighbour, and all together; one may stand twice.
func TestBuildKinds(t *testing.T) {
	l := someItems()
	for i, x := range l {
		wantBuild(t, []api.Item{x})
		wantBuild(t, []api.Item{x, x})
		wantBuild(t, []api.Item{x, l[(i+1)%len(l)]})
	}
	wantBuild(t, l)
	slices.Reverse(l)
	wantBuild(t, append(l, l...))
}

// Promises 10.1 and 10.2: lengths at which the number of the pressed bytes, or that within them, gets a byte more.
func TestBuildLengths(t *testing.T) {
	for n := range 140 {
		wantBuild(t, []api.Item{{Data: fresh(n)}, {Base: idOf('b'), Data: fresh(n)}, {}})
	}
	for n := 16500; n < 16520; n++ {
		wantBuild(t, []api.Item{{Data: fresh(n)}, {Base: idOf('b'), Data: fresh(n)}, {}})
	}
}

// Promise 10.1, Build: where an item stands, or stood, says nothing of where it will.
func TestBuildAt(t *testing.T) {
	want, e := pack.Build([]api.Item{{Data: "one"}, {Base: idOf('b'), Data: "two"}})
	for _, at := range []int{-1, 1, 14, mostInt, leastInt} {
		if p, f := pack.Build([]api.Item{{Data: "one", At: at}, {Base: idOf('b'), Data: "two", At: at}}); p != want || f != e {
			t.Errorf("At %d: %q, %d", at, p, f)
		}
	}
}

// Promise 10.1, Build and Scan: just MostItems items, and one more, which comes ahead of what else is wrong.
func TestBuildMostItems(t *testing.T) {
	for _, n := range []int{1, 127, 128, 129, 1000, api.MostItems - 1, api.MostItems} {
		l := make([]api.Item, n)
		wantBuild(t, l)
		for i := range l {
			l[i].Data = sample.Text(i % 9)
			if i%3 == 1 {
				l[i].Base = sumOf(l[i].Data)
			}
		}
		wantBuild(t, l)
	}
	for _, n := range []int{api.MostItems + 1, api.MostItems + 2, 2 * api.MostItems, 1 << 16} {
		l := make([]api.Item, n)
		wantNoBuild(t, api.ErrMuch, l...)
		l[0].Base = "no id"
		wantNoBuild(t, api.ErrMuch, l...)
	}
}

// Promise 10.1, Build: lz.Press' error; a text of just MostPlain bytes may be.
func TestBuildMostPlain(t *testing.T) {
	const most = api.MostPlain
	for _, s := range []string{fresh(most), strings.Repeat("a", most)} {
		wantBuild(t, []api.Item{{Data: s}})
		wantBuild(t, []api.Item{{Data: "one"}, {Base: idOf('b'), Data: s}})
	}
	for _, s := range []string{fresh(most + 1), strings.Repeat("a", most+1), strings.Repeat("a", 5*most)} {
		wantNoBuild(t, api.ErrMuch, api.Item{Data: s})
		wantNoBuild(t, api.ErrMuch, api.Item{Data: "one"}, api.Item{Base: idOf('b'), Data: s}, api.Item{})
	}
}

// Promise 10.1, Build: a base of 32 bytes, none, and such as are no ids.
func TestBuildBases(t *testing.T) {
	for c := range 256 {
		wantBuild(t, []api.Item{{Base: idOf(byte(c)), Data: "one"}, {Base: sumOf(idOf(byte(c)))}, {Base: ""}})
	}
	for n := range 100 {
		x := api.Item{Base: strings.Repeat("i", n), Data: "one"}
		if n == 0 || n == api.IDBytes {
			wantBuild(t, []api.Item{x})
			continue
		}
		wantNoBuild(t, api.ErrAsk, x)
	}
	for _, base := range noIDs() {
		x := api.Item{Base: base}
		wantNoBuild(t, api.ErrAsk, x)
		wantNoBuild(t, api.ErrAsk, api.Item{Data: "one"}, x)
		wantNoBuild(t, api.ErrAsk, x, api.Item{Base: idOf('b')})
	}
}

// Promise 10.1, Build: of two wrong items the first one counts, and in one the text ahead of the base.
func TestBuildFirst(t *testing.T) {
	long := strings.Repeat("a", api.MostPlain+1)
	for _, base := range noIDs() {
		much, ask, both := api.Item{Data: long}, api.Item{Base: base}, api.Item{Base: base, Data: long}
		wantNoBuild(t, api.ErrMuch, both)
		wantNoBuild(t, api.ErrMuch, much, ask)
		wantNoBuild(t, api.ErrAsk, ask, much)
		wantNoBuild(t, api.ErrMuch, both, ask)
		wantNoBuild(t, api.ErrAsk, ask, both)
		wantNoBuild(t, api.ErrAsk, api.Item{}, ask, api.Item{Base: idOf('b')}, much)
	}
}

// filled is items whose pack has just so many bytes: the last one is as long as it must be.
func filled(bytes int) []api.Item {
	l := []api.Item{{Data: fresh(api.MostPlain)}, {Base: idOf('b'), Data: fresh(api.MostPlain)}, {Data: fresh(api.MostPlain)}, {Base: idOf('c')}, {Data: fresh(api.MostPlain / 2)}}
	_, p := placed(l)
	l[4].Data = fresh(api.MostPlain/2 + bytes - len(p))
	return l
}

// Promises 10.1 and 10.2: a pack of just MostPack bytes, which is scanned again, and of one more.
func TestBuildMostPack(t *testing.T) {
	const most = api.MostPack
	for _, n := range []int{most - 1, most} {
		l := filled(n)
		if p, e := pack.Build(l); e != api.OK || len(p) != n {
			t.Fatalf("%d bytes, %d; wanted %d bytes", len(p), e, n)
		}
		wantBuild(t, l)
	}
	for _, more := range []int{1, 2, api.IDBytes, api.IDBytes + 1} {
		wantNoBuild(t, api.ErrMuch, filled(most+more)...)
	}
	wantNoBuild(t, api.ErrMuch, append(filled(most), api.Item{})...)
	wantNoBuild(t, api.ErrMuch, slices.Repeat(filled(most), 4)...)
}

// Promise 10.1, Build: that a pack has too many bytes comes behind what is wrong with any of its items, with such as stand behind these bytes, too.
func TestBuildMostPackLast(t *testing.T) {
	l := slices.Repeat(filled(api.MostPack), 2)
	for i := range len(l) + 1 {
		wantNoBuild(t, api.ErrAsk, slices.Insert(slices.Clone(l), i, api.Item{Base: "no id"})...)
	}
}

// Promise 10.1, Build: the pack's bytes are counted, not those of all Data together, which Scan alone asks for; each item can be read by One.
func TestBuildMuchData(t *testing.T) {
	l := slices.Repeat([]api.Item{{Data: strings.Repeat("a", api.MostPlain)}}, 4*api.MostPack/api.MostPlain)
	wantBuild(t, l)
	l, want := placed(append(l, api.Item{Data: "x"}))
	if p, e := pack.Build(l); e != api.OK || p != want {
		t.Errorf("%d bytes, %d; wanted %d bytes", len(p), e, len(want))
	}
	wantNoScan(t, want, api.ErrMuch)
	for _, x := range l {
		wantOne(t, want, x.At, x, api.OK)
	}
}

// Rule R2: what was built stays, whatever is done to the items.
func TestBuildOwn(t *testing.T) {
	l := someItems()
	p, _ := pack.Build(l)
	_, want := placed(l)
	clear(l)
	if p != want {
		t.Error("a pack changed with the list that it was built of")
	}
}

func BenchmarkBuild(b *testing.B) {
	l := filled(api.MostPack)
	b.SetBytes(api.MostPack)
	for range b.N {
		if _, e := pack.Build(l); e != api.OK {
			b.Fatal(e)
		}
	}
}
