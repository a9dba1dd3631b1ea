package pack_test

import (
	"strings"
	"testing"

	"pollard/api"
	"pollard/pack"
	"pollard/sample"
)

// Promise 10.1, One: places ahead of the pack, in its sum and behind it, whatever stands there.
func TestOneAsk(t *testing.T) {
	for _, l := range [][]api.Item{nil, {{}}, {{Data: "one"}, {Base: idOf('w'), Data: "two"}}} {
		_, p := placed(l)
		body := p[:len(p)-api.IDBytes]
		for _, text := range []string{p, body + idOf('w'), body + strings.Repeat("w\x01\x00", 10) + "w\x01"} {
			for _, at := range []int{-1, -2, -32, -33, -len(text), leastInt, leastInt + 33, mostInt, mostInt - 33} {
				wantOne(t, text, at, api.Item{}, api.ErrAsk)
			}
			for at := len(text) - api.IDBytes; at < len(text)+100; at++ {
				wantOne(t, text, at, api.Item{}, api.ErrAsk)
			}
		}
	}
}

// Promise 10.1, One: texts of less than 33 bytes have no place for an item; one of just as many has one, but for a letter alone.
func TestOneShort(t *testing.T) {
	for n := range 33 {
		for _, text := range []string{strings.Repeat("w", n), strings.Repeat("w\x01\x00", 11)[:n], sample.Text(n), strings.Repeat("\x00", n)} {
			for at := -70; at < 70; at++ {
				wantOne(t, text, at, api.Item{}, api.ErrAsk)
			}
			wantOne(t, text, leastInt, api.Item{}, api.ErrAsk)
			wantOne(t, text, mostInt, api.Item{}, api.ErrAsk)
		}
	}
	for letter, want := range map[string]api.Errno{"w": api.ErrEnd, "m": api.ErrEnd, "x": api.ErrBad, "\x00": api.ErrBad} {
		wantOne(t, letter+idOf(0), 0, api.Item{}, want)
		wantOne(t, letter+idOf(0), 1, api.Item{}, api.ErrAsk)
	}
}

// Promise 10.1, One: each item where it stands, and at the places between what the bytes there say, if they say something.
func TestOnePlaces(t *testing.T) {
	l, p := placed(someItems()[:10])
	for _, x := range l {
		wantOne(t, p, x.At, x, api.OK)
	}
	for at := -1; at <= len(p); at++ {
		x, want := slowOne(p, at)
		wantOne(t, p, at, x, want)
	}
	// An item within another one's text is read, too.
	inner := api.Item{Base: sumOf("x"), Data: "inner"}
	_, p = placed([]api.Item{{Data: "ahead " + itemOf(inner)}})
	inner.At = strings.Index(p, itemOf(inner))
	wantOne(t, p, inner.At, inner, api.OK)
}

// Promise 10.1, One: each of an item's errors, in a pack and without one around it.
func TestOneWrong(t *testing.T) {
	for wrong, want := range wrongItems() {
		if wrong == "" {
			continue // there is no place at which nothing stands
		}
		for _, ahead := range []string{"", "x", told(packLine, 1), told(packLine, 2, "w\x01\x00")} {
			wantOne(t, sealed(ahead+wrong), len(ahead), api.Item{}, want)
			wantOne(t, ahead+wrong+idOf(0), len(ahead), api.Item{}, want)
		}
	}
}

// Promise 10.1, One: an item does not go on in the sum, though that has the bytes which it misses.
func TestOneNotInSum(t *testing.T) {
	for _, x := range []api.Item{{Data: "one"}, {Base: idOf('b'), Data: "two"}, {Base: idOf('w')}, {Data: fresh(30)}} {
		whole := itemOf(x)
		for i := 1; i < len(whole); i++ {
			text := packLine + whole[:i] + (whole[i:] + idOf(0))[:api.IDBytes]
			wantOne(t, text, len(packLine), api.Item{}, api.ErrEnd)
		}
		x.At = len(packLine)
		wantOne(t, packLine+whole+idOf(0), len(packLine), x, api.OK)
	}
}

// Promise 10.1, One: the item alone is asked for: neither the sum, nor the line, nor the number, nor other items, nor how long it all is.
func TestOneAlone(t *testing.T) {
	x := api.Item{Base: idOf('b'), Data: "item"}
	for _, ahead := range []string{"", "x", "pollard", told(packLine, 0), told(packLine, api.MostItems+1), told(packLine, 2, "x"), packLine + "\x80", strings.Repeat("x", api.MostPack), plain(20)} {
		for _, behind := range []string{"", "x", "w", "w\x01\x00", "\x80", strings.Repeat("x", api.MostPack)} {
			text := ahead + itemOf(x) + behind + idOf('s')
			wantOne(t, text, len(ahead), api.Item{Base: x.Base, Data: x.Data, At: len(ahead)}, api.OK)
		}
	}
}

// Promise 10.1, One: a text of just MostPlain bytes, and pressed bytes that tell of one more.
func TestOneMostPlain(t *testing.T) {
	most := api.Item{Data: fresh(api.MostPlain)}
	wantOne(t, sealed(itemOf(most)), 0, most, api.OK)
	much := told(api.MostPlain+1, 1, "a", 1, api.MostPlain-4)
	wantOne(t, sealed("w", len(much), much), 0, api.Item{}, api.ErrBad)
}

func BenchmarkOne(b *testing.B) {
	l, p := placed(filled(api.MostPack))
	for range b.N {
		if _, e := pack.One(p, l[3].At); e != api.OK {
			b.Fatal(e)
		}
	}
}
