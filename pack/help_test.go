package pack_test

import (
	"crypto/sha256"
	"fmt"
	"slices"
	"strings"
	"testing"

	"pollard/api"
	"pollard/code"
	"pollard/lz"
	"pollard/pack"
	"pollard/sample"
)

const (
	packLine = "pollard pack\n"

	mostInt  = 1<<63 - 1
	leastInt = -1 << 63

	// great is the greatest number that is read: nine bytes.
	great = uint64(9295997013522923647)
)

// sumOf is the sum by the library.
func sumOf(s string) string {
	b := sha256.Sum256([]byte(s))
	return string(b[:])
}

// told is bytes: each number in its form, each text as it is.
func told(parts ...any) string {
	var out strings.Builder
	for _, p := range parts {
		switch p := p.(type) {
		case int:
			out.WriteString(code.Num(uint64(p)))
		case uint64:
			out.WriteString(code.Num(p))
		case string:
			out.WriteString(p)
		}
	}
	return out.String()
}

// sealed is bytes with the right sum behind them.
func sealed(parts ...any) string {
	body := told(parts...)
	return body + sumOf(body)
}

// idOf is an id of one byte, again and again.
func idOf(c byte) string { return strings.Repeat(string([]byte{c}), api.IDBytes) }

// noIDs are texts that are no ids, and are not empty.
func noIDs() []string {
	return []string{"i", idOf('i')[:2], idOf('i')[:31], idOf('i') + "i", idOf('i') + idOf('i'), strings.Repeat("i", 1<<16)}
}

// fresh is n bytes in which no four come again: a number in three bytes of seven bits, of which the first one is marked, and so on.
func fresh(n int) string {
	b := make([]byte, 0, n+3)
	for k := 0; len(b) < n; k++ {
		b = append(b, byte(128|k>>14&127), byte(k>>7&127), byte(k&127))
	}
	return string(b[:n])
}

// pressed is a text, pressed.
func pressed(s string) string {
	p, e := lz.Press(s)
	if e != api.OK {
		panic(e)
	}
	return p
}

// itemOf is an item's bytes.
func itemOf(x api.Item) string {
	p := pressed(x.Data)
	if x.Base == "" {
		return told("w", len(p), p)
	}
	return told("m", x.Base, len(p), p)
}

// placed is items with the places at which they stand in their pack, and that pack.
func placed(l []api.Item) ([]api.Item, string) {
	body := []byte(told(packLine, len(l)))
	l = slices.Clone(l)
	for i, x := range l {
		l[i].At = len(body)
		body = append(body, itemOf(x)...)
	}
	return l, sealed(string(body))
}

// someItems are items of many kinds.
func someItems() []api.Item {
	l := []api.Item{
		{}, {Data: "one"}, {Base: idOf('i'), Data: "two"}, {Base: idOf(0)}, {Base: idOf(0xff), Data: "\x00"},
		{Data: packLine + "\x00"}, {Data: "w"}, {Data: "m" + idOf('m')}, {Data: strings.Repeat("again and ", 50)},
		{Base: idOf('w'), Data: "w\x01\x00"}, {Base: sumOf("x"), Data: fresh(300)}, {Data: sample.Text(20000)},
	}
	for n := range 20 {
		l = append(l, api.Item{Data: sample.Text(n * n)}, api.Item{Base: sumOf(sample.Text(n)), Data: strings.Repeat("ab", n)})
	}
	return l
}

// unnums are bytes at which no number can be read, each with Unnum's error.
func unnums() map[string]api.Errno {
	bad := map[string]api.Errno{}
	for _, c := range []string{"\x80", "\xff"} {
		for n := range 9 {
			bad[strings.Repeat(c, n)] = api.ErrEnd
		}
		for _, n := range []int{9, 10, 30} {
			bad[strings.Repeat(c, n)] = api.ErrBad
		}
		bad[strings.Repeat(c, 9)+"\x00"] = api.ErrBad
	}
	return bad
}

// wrongItems are the bytes of items that may not be, each with its error.
func wrongItems() map[string]api.Errno {
	wrong := map[string]api.Errno{"": api.ErrEnd}
	for c := range 256 {
		if c != 'w' && c != 'm' {
			wrong[string([]byte{byte(c)})] = api.ErrBad
			wrong[string([]byte{byte(c)})+told(5, pressed("one"))] = api.ErrBad
		}
	}
	for _, n := range []int{0, 1, 16, 31} {
		wrong["m"+idOf('b')[:n]] = api.ErrEnd
		wrong["m"+idOf(0x80)[:n]] = api.ErrEnd
	}
	for _, front := range []string{"w", "m" + idOf('b'), "m" + idOf(0x80)} {
		for bytes, e := range unnums() {
			wrong[front+bytes] = e
		}
		for n := 1; n < 6; n++ {
			wrong[front+told(n, pressed("text")[:n-1])] = api.ErrEnd
			wrong[front+told(n, strings.Repeat("\xff", n-1))] = api.ErrEnd
		}
		for _, n := range []uint64{128, api.MostPack, 1 << 31, 1 << 32, 1<<32 + 1, 1<<63 - 1, 1 << 63, 1<<63 + 1, great} {
			wrong[front+told(n, pressed("text"))] = api.ErrEnd
		}
		for p, e := range unpressed() {
			wrong[front+told(len(p), p)] = e
		}
	}
	return wrong
}

// unpressed are bytes that can't be spread, each with Spread's error.
func unpressed() map[string]api.Errno {
	bad := unnums()
	bad[told(api.MostPlain+1)] = api.ErrBad
	bad[told(great)] = api.ErrBad
	bad[told(3)] = api.ErrEnd
	bad[told(3, 3, "on")] = api.ErrEnd
	bad[told(3, 4, "ones")] = api.ErrBad
	bad[told(8, 1, "a", 1)] = api.ErrEnd
	bad[told(8, 1, "a", 2, 3)] = api.ErrBad
	bad[told(8, 1, "a", 1, 4)] = api.ErrBad
	bad[told(3, 3, "one", "x")] = api.ErrRest
	bad[told(0, 0)] = api.ErrRest
	return bad
}

// slowItem reads an item by the chapter's words, each of which is here beside what may be wrong with it; it answers the bytes behind the item, too.
func slowItem(s string) (api.Item, string, api.Errno) {
	x := api.Item{}
	switch {
	case s == "":
		return x, "", api.ErrEnd
	case s[0] == 'w':
		s = s[1:]
	case s[0] != 'm':
		return x, "", api.ErrBad
	case len(s) < 33:
		return x, "", api.ErrEnd
	default:
		x.Base = s[1:33]
		s = s[33:]
	}
	n, k, e := code.Unnum(s)
	if e != api.OK {
		return api.Item{}, "", e
	}
	s = s[k:]
	if uint64(len(s)) < n {
		return api.Item{}, "", api.ErrEnd
	}
	if x.Data, e = lz.Spread(s[:n], 1<<20); e != api.OK {
		return api.Item{}, "", e
	}
	return x, s[n:], api.OK
}

// slowScan scans by the chapter's words.
func slowScan(p string) ([]api.Item, api.Errno) {
	switch {
	case len(p) > 1<<22:
		return nil, api.ErrMuch
	case len(p) < 32:
		return nil, api.ErrEnd
	case !strings.HasSuffix(p, sumOf(p[:len(p)-32])):
		return nil, api.ErrSpoilt
	case !strings.HasPrefix(p[:len(p)-32], packLine):
		return nil, api.ErrBad
	}
	s := p[len(packLine) : len(p)-32]
	n, k, e := code.Unnum(s)
	if e != api.OK {
		return nil, e
	}
	if n > 2048 {
		return nil, api.ErrMuch
	}
	s = s[k:]
	var l []api.Item
	all := 0
	for range n {
		x, behind, e := slowItem(s)
		if e != api.OK {
			return nil, e
		}
		if all += len(x.Data); all > 4<<22 {
			return nil, api.ErrMuch
		}
		x.At = len(p) - 32 - len(s)
		l = append(l, x)
		s = behind
	}
	if s != "" {
		return nil, api.ErrRest
	}
	return l, api.OK
}

// slowOne is the item at a place by the chapter's words.
func slowOne(p string, at int) (api.Item, api.Errno) {
	if at < 0 || at > len(p)-33 {
		return api.Item{}, api.ErrAsk
	}
	x, _, e := slowItem(p[at : len(p)-32])
	if e == api.OK {
		x.At = at
	}
	return x, e
}

// show is the first few items, as a fault is told of them.
func show(l ...api.Item) string {
	out := ""
	for _, x := range l[:min(len(l), 5)] {
		out += fmt.Sprintf("{%q, %.60q, %d}", x.Base, x.Data, x.At)
	}
	return out
}

func wantScan(t *testing.T, p string, want []api.Item) {
	t.Helper()
	if l, e := pack.Scan(p); e != api.OK || !slices.Equal(l, want) {
		t.Errorf("Scan(%.120q): %d items %s, %d; wanted %d, %s", p, len(l), show(l...), e, len(want), show(want...))
	}
}

// wantNoScan wants this error, and no items beside it.
func wantNoScan(t *testing.T, p string, want api.Errno) {
	t.Helper()
	if l, e := pack.Scan(p); e != want || len(l) != 0 {
		t.Errorf("Scan(%.120q): %d items, %d; wanted %d", p, len(l), e, want)
	}
}

// wantOne wants this item, or this error and no item beside it.
func wantOne(t *testing.T, p string, at int, want api.Item, wantErr api.Errno) {
	t.Helper()
	if x, e := pack.One(p, at); e != wantErr || x != want {
		t.Errorf("One(%.120q, %d): %s, %d; wanted %s, %d", p, at, show(x), e, show(want), wantErr)
	}
}

// holdScan holds Scan, and One at each place, against the slow ones.
func holdScan(t *testing.T, p string) {
	t.Helper()
	l, want := slowScan(p)
	if want != api.OK {
		wantNoScan(t, p, want)
	} else {
		wantScan(t, p, l)
	}
	for at := -1; at <= len(p); at++ {
		x, want := slowOne(p, at)
		wantOne(t, p, at, x, want)
	}
}
