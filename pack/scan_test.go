package pack_test

import (
	"slices"
	"strings"
	"testing"

	"pollard/api"
	"pollard/pack"
	"pollard/sample"
)

// wantNoSum wants this error, and no sum beside it; Scan has it, too.
func wantNoSum(t *testing.T, p string, want api.Errno) {
	t.Helper()
	if s, e := pack.Sum(p); e != want || s != "" {
		t.Errorf("Sum(%.120q) of %d bytes: %x, %d; wanted %d", p, len(p), s, e, want)
	}
	wantNoScan(t, p, want)
}

// Promise 10.1, Sum: the sum of any bytes that it stands behind; whether they are a pack is not asked.
func TestSum(t *testing.T) {
	for n := range 200 {
		body := sample.Text(n)
		if s, e := pack.Sum(sealed(body)); e != api.OK || s != sumOf(body) {
			t.Errorf("Sum of %d bytes: %x, %d; wanted %x", n, s, e, sumOf(body))
		}
	}
}

// Promise 10.1, Sum and Scan: texts in which a sum has no room, be they what they may.
func TestSumEnd(t *testing.T) {
	for n := range api.IDBytes {
		wantNoSum(t, sample.Text(n), api.ErrEnd)
		wantNoSum(t, sumOf("")[:n], api.ErrEnd)
		wantNoSum(t, (packLine + "\x00" + sumOf(""))[:n], api.ErrEnd)
	}
}

// Promise 10.1, Sum and Scan: just MostPack bytes, and more, which comes ahead of what else is wrong.
func TestSumMuch(t *testing.T) {
	const most = api.MostPack - api.IDBytes
	body := sample.Text(most)
	if s, e := pack.Sum(sealed(body)); e != api.OK || s != sumOf(body) {
		t.Errorf("%x, %d", s, e)
	}
	wantNoSum(t, body+idOf('s'), api.ErrSpoilt)
	for _, more := range []int{1, 2, 31, 32, 33, 1 << 20} {
		body := sample.Text(most + more)
		wantNoSum(t, sealed(body), api.ErrMuch)
		wantNoSum(t, body+idOf('s'), api.ErrMuch)
	}
}

// Promise 10.1, Sum and Scan: another sum, other bytes ahead of it, and a whole pack with bytes more or less.
func TestSumSpoilt(t *testing.T) {
	for _, l := range [][]api.Item{nil, {{Data: "one"}, {Base: idOf('b'), Data: "two"}}} {
		_, p := placed(l)
		for i := range len(p) {
			for bit := range 8 {
				wantNoSum(t, p[:i]+string([]byte{p[i] ^ 1<<bit})+p[i+1:], api.ErrSpoilt)
			}
			wantNoSum(t, p[:i]+"x"+p[i:], api.ErrSpoilt)
			if i >= api.IDBytes {
				wantNoSum(t, p[:i], api.ErrSpoilt)
			}
		}
		for _, other := range []string{p + "\x00", p + p, "\x00" + p, p + sumOf(""), p[:len(p)-32] + sumOf(p)} {
			wantNoSum(t, other, api.ErrSpoilt)
		}
	}
	wantNoSum(t, idOf(0), api.ErrSpoilt)
	// That the sum is another one comes ahead of what is wrong with the bytes.
	for _, body := range []string{"", "pollard", packLine, packLine + "\x80", packLine + "\x01", packLine + "\x01x", packLine + "\x00rest"} {
		wantNoSum(t, body+sumOf(body+"."), api.ErrSpoilt)
	}
}

// Promise 10.1, Scan: another line, or a part of it, whatever stands behind it.
func TestScanLine(t *testing.T) {
	for i := range len(packLine) {
		wantNoScan(t, sealed(packLine[:i]), api.ErrBad)
		wantNoScan(t, sealed(packLine[i+1:]+"\x00"), api.ErrBad)
		for _, behind := range []string{"", "\x00", "\x01", "\x80", told(api.MostItems + 1), "\x00rest", "\x01x"} {
			wantNoScan(t, sealed(packLine[:i]+string([]byte{packLine[i] ^ 1})+packLine[i+1:]+behind), api.ErrBad)
			wantNoScan(t, sealed(packLine[:i]+packLine[i+1:]+behind), api.ErrBad)
			wantNoScan(t, sealed(packLine[:i]+"x"+packLine[i:]+behind), api.ErrBad)
		}
	}
	for _, line := range []string{"pollard pack", "pollard pack\r\n", "pollard  pack\n", "Pollard pack\n", "pollard index\n", "pollard packs\n", " pollard pack\n", "\n" + packLine} {
		wantNoScan(t, sealed(line+"\x00"), api.ErrBad)
	}
	wantScan(t, sealed(packLine+"\x00"), nil)
}

// Promise 10.1, Scan: Unnum's errors of the number of items; more than MostItems, ahead of what is wrong with the items.
func TestScanNumber(t *testing.T) {
	for bytes, want := range unnums() {
		wantNoScan(t, sealed(packLine, bytes), want)
	}
	for _, n := range []uint64{api.MostItems + 1, api.MostItems + 2, 1 << 31, 1 << 32, 1<<32 + 1, 1 << 63, 1<<63 + 1, great} {
		for _, behind := range []string{"", "x", "w", "w\x01", "w\x01\x00", strings.Repeat("w\x01\x00", api.MostItems+1)} {
			wantNoScan(t, sealed(packLine, n, behind), api.ErrMuch)
		}
	}
	wantNoScan(t, sealed(packLine, api.MostItems), api.ErrEnd)
	wantNoScan(t, sealed(packLine, api.MostItems, "x"), api.ErrBad)
	wantNoScan(t, sealed(packLine, api.MostItems, strings.Repeat("w\x01\x00", api.MostItems-1)), api.ErrEnd)
	wantNoScan(t, sealed(packLine, api.MostItems, strings.Repeat("w\x01\x00", api.MostItems+1)), api.ErrRest)
	if l, e := pack.Scan(sealed(packLine, api.MostItems, strings.Repeat("w\x01\x00", api.MostItems))); e != api.OK || len(l) != api.MostItems {
		t.Error(len(l), e)
	}
}

// Promise 10.1, Scan: each error of an item, of the first one and of later ones, with more to come and as the last one.
func TestScanWrongItems(t *testing.T) {
	for wrong, want := range wrongItems() {
		for n, ahead := range []string{"", "w\x01\x00", "w\x01\x00" + itemOf(api.Item{Base: idOf('b'), Data: "one"})} {
			wantNoScan(t, sealed(packLine, n+1, ahead, wrong), want)
			wantNoScan(t, sealed(packLine, n+2, ahead, wrong), want)
			wantNoScan(t, sealed(packLine, api.MostItems, ahead, wrong), want)
		}
	}
}

// Promise 10.1, Scan: of two wrong items the first one counts; what is wrong with any comes ahead of bytes that are left.
func TestScanFirst(t *testing.T) {
	whole := told(3, 3, "one")
	for one, want := range map[string]api.Errno{
		"x":                                   api.ErrBad,
		"w" + told(6, whole, "x"):             api.ErrRest,
		"m" + idOf('b') + told(2, 3, 3):       api.ErrEnd,
		"w" + strings.Repeat("\x80", 9):       api.ErrBad,
		"m" + idOf(0) + told(1, "\x00") + "x": api.ErrBad, // the one behind it is
	} {
		for _, other := range []string{"", "x", "w\x05", "w" + told(6, whole, "x"), "w" + told(2, 3, 3), "w\x01\x00", "rest"} {
			wantNoScan(t, sealed(packLine, 3, "w\x01\x00", one, other), want)
		}
	}
	// An item that tells of more than there is ends too soon, whatever its pressed bytes are; as soon as they are there they count.
	wantNoScan(t, sealed(packLine, 1, "w", 10, strings.Repeat("\x80", 9)), api.ErrEnd)
	wantNoScan(t, sealed(packLine, 1, "w", 10, strings.Repeat("\x80", 10)), api.ErrBad)
	wantNoScan(t, sealed(packLine, 1, "w", 10, strings.Repeat("\x80", 11)), api.ErrBad)
}

// Promise 10.1, Scan: an item ends where its number says, not where its text is whole.
func TestScanItemEnds(t *testing.T) {
	whole := told(3, 3, "one")
	wantScan(t, sealed(packLine, 1, "w", len(whole), whole), []api.Item{{Data: "one", At: 14}})
	wantNoScan(t, sealed(packLine, 1, "w", len(whole)+1, whole, "x"), api.ErrRest)
	wantNoScan(t, sealed(packLine, 1, "w", len(whole)-1, whole), api.ErrEnd)
	wantNoScan(t, sealed(packLine, 1, "w", 0), api.ErrEnd)
	// Pressed otherwise than Press does it, but of the form.
	wantScan(t, sealed(packLine, 1, "w", 10, told(8, 8, "aaaaaaaa")), []api.Item{{Data: "aaaaaaaa", At: 14}})
}

// Promise 10.1, Scan: a pack that is cut anywhere, with the right sum behind it.
func TestScanCut(t *testing.T) {
	l := []api.Item{{Data: "one"}, {Base: idOf('b'), Data: strings.Repeat("two", 9)}, {}, {Data: fresh(200)}, {Base: idOf('m')}}
	_, p := placed(l)
	body := p[:len(p)-api.IDBytes]
	for i := range len(body) {
		want := api.ErrEnd
		if i < len(packLine) {
			want = api.ErrBad
		}
		wantNoScan(t, sealed(body[:i]), want)
	}
}

// Promise 10.1, Scan: bytes that are left behind the last item, other items and the sum once more among them.
func TestScanRest(t *testing.T) {
	for _, l := range [][]api.Item{nil, {{}}, {{Data: "one"}, {Base: idOf('b'), Data: "two"}}} {
		_, p := placed(l)
		body := p[:len(p)-api.IDBytes]
		for _, rest := range []string{"\x00", "w", "x", "w\x01\x00", "\x80", body, p[len(body):], p} {
			wantNoScan(t, sealed(body+rest), api.ErrRest)
		}
		if len(l) > 0 {
			fewer := told(packLine, len(l)-1) + body[len(packLine)+1:]
			wantNoScan(t, sealed(fewer), api.ErrRest)
		}
	}
}

// plain is n items of MostPlain bytes each, that are few when they are pressed.
func plain(n int) string {
	return strings.Repeat(itemOf(api.Item{Data: strings.Repeat("a", api.MostPlain)}), n)
}

// Promise 10.1, Scan: all Data together of just 4 MostPack bytes, and of one more.
func TestScanMuchData(t *testing.T) {
	const n = 4 * api.MostPack / api.MostPlain
	last := itemOf(api.Item{Base: idOf('b'), Data: strings.Repeat("b", api.MostPlain-1)})
	for _, c := range []struct {
		items int
		bytes string
	}{
		{n, plain(n)}, {n, plain(n-1) + last}, {n + 1, plain(n) + itemOf(api.Item{})}, {n + 1, plain(n-1) + last + itemOf(api.Item{Data: "x"})},
	} {
		p := sealed(packLine, c.items, c.bytes)
		want, e := slowScan(p)
		if e != api.OK {
			t.Fatal(e)
		}
		wantScan(t, p, want)
	}
	for _, c := range []struct {
		items int
		bytes string
	}{
		{n + 1, plain(n + 1)}, {n + 1, plain(n) + itemOf(api.Item{Data: "x"})}, {n + 1, itemOf(api.Item{Base: idOf('b'), Data: "x"}) + plain(n)},
		{n + 1, plain(n-1) + last + itemOf(api.Item{Data: "xy"})}, {n + 2, plain(n) + itemOf(api.Item{}) + itemOf(api.Item{Data: "x"})},
		{api.MostItems, plain(api.MostItems)},
	} {
		wantNoScan(t, sealed(packLine, c.items, c.bytes), api.ErrMuch)
		wantNoScan(t, sealed(packLine, c.items, c.bytes, "rest"), api.ErrMuch)
	}
}

// Promise 10.1, Scan: too many bytes of Data count at the item with which they are too many: behind its own errors and those of earlier ones, ahead of those of later ones.
func TestScanMuchDataFirst(t *testing.T) {
	const n = 4 * api.MostPack / api.MostPlain
	for wrong, want := range map[string]api.Errno{"": api.ErrEnd, "x": api.ErrBad, "w" + told(3, 0, "xx"): api.ErrRest, "w" + strings.Repeat("\x80", 9): api.ErrBad} {
		wantNoScan(t, sealed(packLine, n+2, plain(n), wrong), want)
		wantNoScan(t, sealed(packLine, n+2, plain(n+1), wrong), api.ErrMuch)
	}
}

// Promise 10.1, Scan and One: packs with one bit turned, one byte more or one less, and the right sum behind them, are refused or read as the slow ones do.
func TestScanSpoilt(t *testing.T) {
	for _, l := range [][]api.Item{
		nil, {{}}, {{Data: "one"}, {Base: idOf('b'), Data: "aaaaaaaa"}}, {{Base: idOf('w')}, {Base: idOf('m'), Data: "m" + idOf('m')}, {Data: "w\x01\x00w"}},
	} {
		_, p := placed(l)
		body := p[:len(p)-api.IDBytes]
		for i := range len(body) {
			for bit := range 8 {
				holdScan(t, sealed(body[:i]+string([]byte{body[i] ^ 1<<bit})+body[i+1:]))
			}
			for _, one := range []string{"\x00", "\x01", "\x04", "m", "w", "\x80", "\xff"} {
				holdScan(t, sealed(body[:i]+one+body[i:]))
			}
			holdScan(t, sealed(body[:i]+body[i+1:]))
		}
	}
}

// Promise 10.1, Scan and One: items by chance, of bytes that look like such.
func TestScanByChance(t *testing.T) {
	for n := range 8 {
		for k := range 1 << (2 * n) {
			b := make([]byte, n)
			for i := range b {
				b[i] = "\x00\x01w\x80"[k>>(2*i)&3]
			}
			for items := range 3 {
				holdScan(t, sealed(packLine, items, string(b)))
			}
		}
	}
	pieces := []string{"w", "m" + idOf('b'), "m", "\x00", "\x01", "\x02", "\x03", "\x01\x00", "\x03\x01\x01x", "\x04\x02\x02ab", "\x05\x08\x01a\x01\x03", "x", "\x80", "\xff"}
	seed := sample.Text(1 << 15)
	for i := 0; i+12 < len(seed); i += 12 {
		body := told(packLine, int(seed[i])%5)
		for _, c := range []byte(seed[i+1:][:int(seed[i+11])%11]) {
			body += pieces[int(c)%len(pieces)]
		}
		holdScan(t, sealed(body))
	}
}

// Rule R2: what was scanned is the caller's own.
func TestScanOwn(t *testing.T) {
	want, p := placed(someItems())
	l, _ := pack.Scan(p)
	clear(l)
	wantScan(t, p, want)
	if !slices.Equal(l, make([]api.Item, len(want))) {
		t.Error("a later Scan changed what an earlier one answered")
	}
}

func BenchmarkScan(b *testing.B) {
	_, p := placed(filled(api.MostPack))
	b.SetBytes(api.MostPack)
	for range b.N {
		if _, e := pack.Scan(p); e != api.OK {
			b.Fatal(e)
		}
	}
}
