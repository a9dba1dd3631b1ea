package index_test

import (
	"encoding/hex"
	"slices"
	"strings"
	"testing"

	"pollard/api"
	"pollard/index"
)

// Promise 11.1, Encode: bytes that are written out by the section Words.
func TestEncodeKnown(t *testing.T) {
	pack := strings.Repeat("s", 32)
	none := "pollard index\n" + pack + strings.Repeat("\x00", 1024)
	one := "pollard index\n" + pack + strings.Repeat("\x00\x00\x00\x00", 97) + strings.Repeat("\x00\x00\x00\x01", 159) +
		strings.Repeat("a", 32) + "\x00\x00\x01\x2c"
	ends := "pollard index\n" + pack + strings.Repeat("\x00\x00\x00\x01", 255) + "\x00\x00\x00\x02" +
		strings.Repeat("\x00", 32) + "\x00\x40\x00\x00" + strings.Repeat("\xff", 32) + "\x00\x00\x00\x00"
	for _, c := range []struct {
		l         []api.Spot
		body, sum string
	}{
		{nil, none, "bf9efa1994641999858fd9811ed5c38e11457d3bf05f8f5e5081de8dd6556cf8"},
		{[]api.Spot{{ID: idOf('a'), At: 300}}, one, "6ee8771cd7157a05aa34592dc467ade1a1a09e07912671d944747051487a0438"},
		{[]api.Spot{{ID: idOf(255), At: 0}, {ID: idOf(0), At: 1 << 22}}, ends, "01ce80a442bd498058aec7cf7d12a4def18403f058819e68e3030f245ee03082"},
	} {
		sum, _ := hex.DecodeString(c.sum)
		if got := newIndex(t, pack, c.l).Encode(); got != c.body+string(sum) {
			t.Errorf("Encode of %s: %d bytes, %q", show(c.l), len(got), got)
		}
		x, e := index.Load(c.body + string(sum))
		if e != api.OK {
			t.Errorf("Load of %s: %d", show(c.l), e)
		}
		wantIndex(t, "known", x, pack, c.l)
	}
}

// Promise 11.1, Encode: its length, and the sum at its end.
func TestEncodeLength(t *testing.T) {
	for _, n := range []int{0, 1, 2, 255, 256, 257, api.MostItems} {
		s := newIndex(t, packSum(), manySpots(n)).Encode()
		if len(s) != bytesOfNone+36*n {
			t.Errorf("%d spots: %d bytes", n, len(s))
		}
		if !strings.HasSuffix(s, sumOf(bodyOf(s))) {
			t.Errorf("%d spots: another sum", n)
		}
	}
}

// Promise 11.1, Load and Encode: what was made is loaded again, and made again of that.
func TestLoadKinds(t *testing.T) {
	for what, l := range someLists() {
		for _, pack := range []string{packSum(), idOf(0), idOf(255), (indexLine + indexLine + indexLine)[:32]} {
			x, e := index.Load(newIndex(t, pack, shuffled(l, 3)).Encode())
			if e != api.OK {
				t.Fatalf("%s: Load: %d", what, e)
			}
			wantIndex(t, what, x, pack, l)
		}
	}
}

// Promise 11.1, Load: fewer bytes than an index of nothing has, whatever they are, with the right sum, too.
func TestLoadEnd(t *testing.T) {
	s := newIndex(t, packSum(), nil).Encode()
	if len(s) != bytesOfNone {
		t.Fatalf("%d bytes", len(s))
	}
	for n := range bytesOfNone {
		wantNoLoad(t, "cut", s[:n], api.ErrEnd)
		wantNoLoad(t, "other bytes", strings.Repeat("x", n), api.ErrEnd)
		if n >= 32 {
			wantNoLoad(t, "sealed", sealed(s[:n-32]), api.ErrEnd)
			wantNoLoad(t, "sealed other bytes", sealed(strings.Repeat("x", n-32)), api.ErrEnd)
		}
	}
	wantNoLoad(t, "just as many", strings.Repeat("x", bytesOfNone), api.ErrSpoilt)
	wantNoLoad(t, "just as many, sealed", sealed(strings.Repeat("x", bytesOfNone-32)), api.ErrBad)
}

// Promise 11.1, Load: any byte that is another one, and bytes that are cut off or added without a new sum.
func TestLoadSpoilt(t *testing.T) {
	for _, l := range [][]api.Spot{nil, manySpots(3), alikeSpots(0, 2)} {
		s := newIndex(t, packSum(), l).Encode()
		for i := range len(s) {
			for _, turn := range []byte{1, 128, 255} {
				b := []byte(s)
				b[i] ^= turn
				wantNoLoad(t, "turned", string(b), api.ErrSpoilt)
			}
		}
		for n := bytesOfNone; n < len(s); n++ {
			wantNoLoad(t, "cut", s[:n], api.ErrSpoilt)
		}
		for _, more := range []string{"x", "\x00", s[len(s)-32:], s, strings.Repeat("\x00", 36)} {
			wantNoLoad(t, "more", s+more, api.ErrSpoilt)
		}
	}
}

// Promise 11.1, Load: another line.
func TestLoadLine(t *testing.T) {
	for _, l := range [][]api.Spot{nil, manySpots(3)} {
		body := bodyOf(bytesOf(packSum(), l))
		for i := range len(indexLine) {
			for _, turn := range []byte{1, 32, 128} {
				b := []byte(body)
				b[i] ^= turn
				wantNoLoad(t, "line", sealed(string(b)), api.ErrBad)
			}
		}
		wantNoLoad(t, "a pack's line", sealed("pollard pack\n\x00"+body[len(indexLine):]), api.ErrBad)
		wantNoLoad(t, "a byte ahead", sealed("x"+body), api.ErrBad)
		wantNoLoad(t, "no line, as many bytes", sealed(body[len(indexLine):]+strings.Repeat("\x00", len(indexLine))), api.ErrBad)
	}
}

// Promise 11.1, Load: bytes left over, at each number of them that is no whole spot, ahead of ErrMuch.
func TestLoadRest(t *testing.T) {
	for _, l := range [][]api.Spot{nil, manySpots(3), manySpots(api.MostItems), manySpots(api.MostItems + 1), manySpots(2 * api.MostItems)} {
		body := bodyOf(bytesOf(packSum(), l))
		for n := 1; n < 36; n++ {
			wantNoLoad(t, "noughts", sealed(body+strings.Repeat("\x00", n)), api.ErrBad)
			wantNoLoad(t, "others", sealed(body+strings.Repeat("\xff", n)), api.ErrBad)
		}
	}
}

// Promise 11.1, Load: just MostItems spots (TestLoadKinds has them), and more, which comes ahead of what else is wrong but the line.
func TestLoadMuch(t *testing.T) {
	for _, n := range []int{api.MostItems + 1, api.MostItems + 2, 3 * api.MostItems} {
		l := rising(manySpots(n))
		body := told(packSum(), counts(l), l)
		wantNoLoad(t, "many", sealed(body), api.ErrMuch)
		wantNoLoad(t, "many, spoilt", body+idOf('s'), api.ErrSpoilt)
		wantNoLoad(t, "many, another line", sealed("P"+body[1:]), api.ErrBad)
		wantNoLoad(t, "many, bytes left over", sealed(body+"x"), api.ErrBad)
		wantNoLoad(t, "many, other numbers", sealed(told(packSum(), [256]int{}, l)), api.ErrMuch)
		l[0], l[1] = l[1], l[0]
		wantNoLoad(t, "many that do not rise", sealed(told(packSum(), counts(l), l)), api.ErrMuch)
		l[0] = l[1]
		wantNoLoad(t, "many, one twice", sealed(told(packSum(), counts(l), l)), api.ErrMuch)
		l[0] = api.Spot{ID: idOf(0), At: api.MostPack + 1}
		wantNoLoad(t, "many, a place", sealed(told(packSum(), counts(l), l)), api.ErrMuch)
	}
}

// Promise 11.1, Load: ids that do not rise, and an id that stands twice.
func TestLoadOrder(t *testing.T) {
	for what, l := range someLists() {
		l = rising(l)
		n := counts(l)
		for i := 1; i < len(l); i += 1 + len(l)/20 {
			for _, k := range []int{i - 1, 0, len(l) - 1} {
				if k == i {
					continue
				}
				other := slices.Clone(l)
				other[i], other[k] = other[k], other[i]
				wantNoLoad(t, what+", exchanged", sealed(told(packSum(), n, other)), api.ErrBad)
				other = slices.Clone(l)
				other[i].ID = other[k].ID
				wantNoLoad(t, what+", twice", sealed(told(packSum(), counts(other), other)), api.ErrBad)
				other[i].At = other[k].At
				wantNoLoad(t, what+", twice at one place", sealed(told(packSum(), counts(other), other)), api.ErrBad)
			}
		}
		back := slices.Clone(l)
		slices.Reverse(back)
		if len(l) > 1 {
			wantNoLoad(t, what+", falling", sealed(told(packSum(), n, back)), api.ErrBad)
		}
	}
}

// Promise 11.1, Load: places above MostPack.
func TestLoadPlace(t *testing.T) {
	for _, l := range [][]api.Spot{manySpots(1), rising(manySpots(5)), alikeSpots(255, 3)} {
		for i := range l {
			for _, at := range []int{0, 1, api.MostPack - 1, api.MostPack} {
				l := slices.Clone(l)
				l[i].At = at
				x, e := index.Load(sealed(told(packSum(), counts(l), l)))
				if e != api.OK {
					t.Fatalf("place %d: %d", at, e)
				}
				wantIndex(t, "a place", x, packSum(), l)
			}
			for _, at := range []int{api.MostPack + 1, 2 * api.MostPack, 1<<24 + 1, 1<<31 - 1, 1 << 31, 1<<31 + 1, 1<<32 - 1} {
				l := slices.Clone(l)
				l[i].At = at
				wantNoLoad(t, "a place", sealed(told(packSum(), counts(l), l)), api.ErrBad)
			}
		}
	}
}

// Promise 11.1, Load: another number of lesser ids, at each byte, by one and by much; one spot more or fewer than the last one tells.
func TestLoadNumbers(t *testing.T) {
	for _, l := range [][]api.Spot{nil, alikeSpots(0, 1), alikeSpots('m', 2), alikeSpots(255, 1), rising(manySpots(40))} {
		right := counts(l)
		for b := range 256 {
			for _, by := range []int{1, -1, 2, 256, 1 << 24, 1 << 31, -1 << 31} {
				n := right
				n[b] += by
				wantNoLoad(t, "a number", sealed(told(packSum(), n, l)), api.ErrBad)
			}
		}
		for _, by := range []int{1, api.MostItems, api.MostItems + 1, 1 << 30} {
			n := right
			for b := range n {
				n[b] += by
			}
			wantNoLoad(t, "all numbers", sealed(told(packSum(), n, l)), api.ErrBad)
		}
		more := append(slices.Clone(l), api.Spot{ID: idOf(255)})
		wantNoLoad(t, "one more", sealed(told(packSum(), right, more)), api.ErrBad)
		if len(l) > 0 {
			wantNoLoad(t, "one fewer", sealed(told(packSum(), right, l[1:])), api.ErrBad)
			wantNoLoad(t, "no numbers", sealed(told(packSum(), [256]int{}, l)), api.ErrBad)
		}
	}
}

// Promise 11.1, Load: what it is given with a right sum, with a byte that is another one, is what Encode makes or is refused, as by the chapter's words.
func TestLoadTurned(t *testing.T) {
	loaded := 0
	for _, l := range [][]api.Spot{nil, rising(manySpots(3)), alikeSpots(0, 2), {{ID: idOf(9), At: api.MostPack}}} {
		body := bodyOf(bytesOf(packSum(), l))
		for i := range len(body) {
			for _, turn := range []byte{1, 2, 64, 128, 255} {
				b := []byte(body)
				b[i] ^= turn
				s := sealed(string(b))
				pack, spots, want := slowLoad(s)
				if want != api.OK {
					wantNoLoad(t, "turned", s, want)
					continue
				}
				loaded++
				x, e := index.Load(s)
				if e != api.OK {
					t.Fatalf("Load of %s: %d", show(spots), e)
				}
				wantIndex(t, "turned", x, pack, spots)
				if x.Encode() != s {
					t.Errorf("Encode of what was loaded is not that: %s", show(spots))
				}
			}
		}
	}
	if loaded == 0 {
		t.Error("nothing was loaded")
	}
}

// Promise 11.1, Load: which error comes first where all are to be had: ErrEnd, ErrSpoilt, ErrBad of the line and of what is left over, ErrMuch, ErrBad.
func TestLoadFirst(t *testing.T) {
	many := manySpots(api.MostItems + 1) // they do not rise
	for _, s := range []string{
		"", "x", sealed("x"), sealed(""), strings.Repeat("x", bytesOfNone-1), strings.Repeat("x", bytesOfNone),
		told("x", [256]int{}, many), told(packSum(), [256]int{}, many) + "x", sealed(told(packSum(), [256]int{}, many) + "x"),
		sealed("x" + told(packSum(), [256]int{}, many)[1:]), sealed(told(packSum(), [256]int{}, many)), sealed(told(packSum(), [256]int{}, many[1:])),
	} {
		_, _, want := slowLoad(s)
		if want == api.OK {
			t.Fatalf("%d bytes are an index", len(s))
		}
		wantNoLoad(t, "first", s, want)
	}
	wantNoLoad(t, "long", strings.Repeat("x", 1<<21), api.ErrSpoilt)
	wantNoLoad(t, "long, sealed", sealed(strings.Repeat("x", 1<<21)), api.ErrBad)
}

func FuzzLoad(f *testing.F) {
	for _, l := range someLists() {
		if len(l) < 10 {
			f.Add([]byte(bodyOf(bytesOf(packSum(), l))))
		}
	}
	f.Fuzz(func(t *testing.T, body []byte) {
		for _, s := range []string{string(body), sealed(string(body))} {
			pack, l, want := slowLoad(s)
			if want != api.OK {
				wantNoLoad(t, "fuzz", s, want)
				continue
			}
			x, e := index.Load(s)
			if e != api.OK {
				t.Fatalf("Load of %s: %d", show(l), e)
			}
			wantIndex(t, "fuzz", x, pack, l)
		}
	})
}

func BenchmarkLoad(b *testing.B) {
	s := bytesOf(packSum(), manySpots(api.MostItems))
	b.SetBytes(int64(len(s)))
	for range b.N {
		if _, e := index.Load(s); e != api.OK {
			b.Fatal(e)
		}
	}
}
