package refs_test

import (
	"math/rand"
	"slices"
	"strings"
	"testing"

	"pollard/api"
	"pollard/refs"
	"pollard/sample"
)

// Promise 13.1, Encode and Decode: bytes that are written out.
func TestBytesKnown(t *testing.T) {
	wantMade(t, api.Refs{Head: "heads/main"}, "head heads/main\n")
	wantMade(t, api.Refs{Head: "heads/main", List: []api.Ref{}}, "head heads/main\n")
	wantMade(t, api.Refs{Head: "heads/x-1", List: []api.Ref{{Name: "tags/v_1", ID: "\x00\x01\x7f\x80\xff" + idOf(' ')[:27]}}},
		"head heads/x-1\n00017f80ff"+strings.Repeat("20", 27)+" tags/v_1\n")
	wantMade(t, api.Refs{Head: "heads/main", List: []api.Ref{{Name: "heads/main", ID: idOf('a')}, {Name: "tags/v1", ID: idOf('\n')}}},
		"head heads/main\n"+strings.Repeat("61", 32)+" heads/main\n"+strings.Repeat("0a", 32)+" tags/v1\n")
}

// Promise 13.1, Encode and Decode: what was encoded is decoded again, up to MostRefs refs of the longest names.
func TestBytesAgain(t *testing.T) {
	long := strings.Repeat("-", api.MostLabel)
	for _, r := range []api.Refs{named(), ordinary(), named("heads/"+long, "tags/"+long), {Head: "heads/" + long}, many(1), many(api.MostRefs - 1), many(api.MostRefs)} {
		wantMade(t, r, bytesOf(r))
	}
	most := many(api.MostRefs)
	for i := range most.List {
		most.List[i].Name += strings.Repeat("z", api.MostLabel-6)
	}
	wantMade(t, most, bytesOf(most))
	for c := range 256 {
		r := named("heads/a", "tags/a")
		r.List[0].ID, r.List[1].ID = idOf(byte(c)), idOf(byte(c))[:31]+"i"
		wantMade(t, r, bytesOf(r))
	}
}

// Promise 13.1, Encode and Decode: Check's errors, which come in Check's order; behind the form in bytes.
func TestBytesCheck(t *testing.T) {
	for _, n := range []int{api.MostRefs + 1, api.MostRefs + 2, 5000} {
		wantUnread(t, bytesOf(many(n)), api.ErrMuch)
		r := many(n)
		r.Head = "what"
		wantUnread(t, bytesOf(r), api.ErrMuch)
		r.List[0].Name, r.List[n-1].Name = "", r.List[n-2].Name
		wantUnread(t, bytesOf(r), api.ErrMuch)
	}
	for _, name := range noHeads() {
		r := ordinary()
		r.Head = name
		if !strings.Contains(name, "\n") {
			wantUnread(t, bytesOf(r), api.ErrLabel)
			r.List[1].Name = "heads/a"
			wantUnread(t, bytesOf(r), api.ErrLabel)
		}
	}
	for i := range ordinary().List {
		for _, name := range noRefNames() {
			r := ordinary()
			r.List[i].Name = name
			if !strings.Contains(name, "\n") {
				wantUnread(t, bytesOf(r), api.ErrLabel)
			}
		}
		for j := range i {
			r := ordinary()
			r.List[i].Name, r.List[j].Name = r.List[j].Name, r.List[i].Name
			wantUnread(t, bytesOf(r), api.ErrOrder)
			r = ordinary()
			r.List[i].Name = r.List[j].Name
			wantUnread(t, bytesOf(r), api.ErrOrder)
		}
	}
	r := ordinary()
	r.List[1].Name, r.List[2].Name = "heads/a", "what"
	wantUnread(t, bytesOf(r), api.ErrOrder)
	r.List[1].Name, r.List[2].Name = "what", "heads/a"
	wantUnread(t, bytesOf(r), api.ErrLabel)
}

// Promise 13.1, Encode: a line's end in a name would be read as another ref, and is refused ahead of that.
func TestEncodeLines(t *testing.T) {
	r := named("heads/a\n" + hexOf('x') + " heads/b")
	wantUnmade(t, r, api.ErrLabel)
	if got, e := refs.Decode(bytesOf(r)); e != api.OK || len(got.List) != 2 {
		t.Error(show(got), e)
	}
	wantUnmade(t, api.Refs{Head: "heads/a\n" + hexOf('x') + " heads/b"}, api.ErrLabel)
}

// Promise 13.1, Decode: bytes that are cut anywhere: at a line's end they are other refs, anywhere else of another form.
func TestDecodeCut(t *testing.T) {
	for _, r := range []api.Refs{named(), named("tags/a"), ordinary()} {
		s := bytesOf(r)
		for i := range len(s) {
			if strings.HasSuffix(s[:i], "\n") {
				n := strings.Count(s[:i], "\n") - 1
				wantMade(t, api.Refs{Head: r.Head, List: r.List[:n]}, s[:i])
				continue
			}
			wantUnread(t, s[:i], api.ErrBad)
			if i > 0 {
				wantUnread(t, s[i:], api.ErrBad)
			}
		}
	}
}

// Promise 13.1, Decode: something behind the last line.
func TestDecodeBehind(t *testing.T) {
	for _, r := range []api.Refs{named(), ordinary(), many(api.MostRefs), many(api.MostRefs + 1)} {
		s := bytesOf(r)
		for _, behind := range []string{"\n", " ", "\x00", "x", "\r\n", "head heads/main\n", hexOf('z'), hexOf('z') + "\n", hexOf('z') + " tags/z", "tags/z\n", "tags/z " + hexOf('z') + "\n", "\n" + hexOf('z') + " tags/z\n", s} {
			wantUnread(t, s+behind, api.ErrBad)
		}
	}
}

// Promise 13.1, Decode: other forms of the first line.
func TestDecodeHead(t *testing.T) {
	behind := hexOf('a') + " tags/a\n"
	for _, first := range []string{"", "\n", "head\n", "headheads/main\n", "Head heads/main\n", "HEAD heads/main\n", "heads heads/main\n", "hea heads/main\n", " head heads/main\n", "\nhead heads/main\n", "\x00head heads/main\n", "head\theads/main\n", "head: heads/main\n", "heads/main\n", "heads/main head\n", " heads/main\n", hexOf('h') + " heads/main\n"} {
		wantUnread(t, first, api.ErrBad)
		wantUnread(t, first+behind, api.ErrBad)
	}
	// The form is as it must be, and the name is none.
	for _, first := range []string{"head \n", "head  \n", "head  heads/main\n", "head heads/main \n", "head heads/main\r\n", "head head heads/main\n", "head tags/main\n", "head main\n", "head heads/main\x00\n", "head heads/\xff\n"} {
		wantUnread(t, first, api.ErrLabel)
		wantUnread(t, first+behind, api.ErrLabel)
		wantUnread(t, first+behind+"\n", api.ErrBad)
	}
}

// Promise 13.1, Decode: digits that are none, or are of no id, ahead of whatever else is wrong, however many refs there are.
func TestDecodeDigits(t *testing.T) {
	good := hexOf('a')
	forms := []string{"", "6", "61", good[1:], good[2:], good + "6", good + "61", good + good, strings.ToUpper(hexOf('j')), "g" + good[1:], good[:63] + "g", "0x" + good[2:], " " + good, good[:32] + " " + good[32:], "-" + good[1:], "\x00" + good[1:], good[:62] + "ä", idOf('a'), idOf('z') + idOf('z')}
	for _, n := range []int{0, 1, 3, api.MostRefs - 1, api.MostRefs, api.MostRefs + 1, 1000} {
		ahead := bytesOf(many(n))
		for _, digits := range forms {
			wantUnread(t, ahead+digits+" tags/z\n", api.ErrBad)
			wantUnread(t, "head what\n"+digits+" what\n"+ahead[len("head heads/main\n"):], api.ErrBad)
		}
		for _, line := range []string{good + "\n", good + "tags/z\n", good + "\ttags/z\n", good + "\n tags/z\n", "tags/z " + good + "\n", "tags/z\n", "\n", " \n"} {
			wantUnread(t, ahead+line, api.ErrBad)
		}
	}
	wantUnread(t, "head heads/main\n"+good+" \n", api.ErrLabel)
	wantUnread(t, "head heads/main\n"+good+"  tags/z\n", api.ErrLabel)
	wantUnread(t, "head heads/main\n"+good+" tags/z \n", api.ErrLabel)
	wantUnread(t, "head heads/main\n"+good+" tags/z\r\n", api.ErrLabel)
}

func wantSlow(t *testing.T, s string) {
	t.Helper()
	want, e := slowDecode(s)
	got, f := refs.Decode(s)
	if f != e || !same(got, want) {
		t.Errorf("Decode(%.300q): %s, %d; wanted %s, %d", s, show(got), f, show(want), e)
	}
	if e != api.OK {
		return
	}
	if again, e := refs.Encode(got); e != api.OK || again != s {
		t.Errorf("Encode(%s): %.300q, %d; wanted %.300q", show(got), again, e, s)
	}
}

// Promise 13.1, Decode: bytes of which one is another, or gone, or there twice, and lines in any order, against a slow one; what is read has just these bytes.
func TestDecodeAny(t *testing.T) {
	for _, r := range []api.Refs{named(), named("heads/a", "tags/a"), ordinary()} {
		for _, s := range spoilt(bytesOf(r)) {
			wantSlow(t, s)
		}
	}
	lines := []string{"head heads/a\n", "head what\n", hexOf('a') + " heads/a\n", hexOf('b') + " tags/b\n", hexOf('c') + " what\n", "61 heads/z\n", "\n", "head"}
	var longer func(s string, n int)
	longer = func(s string, n int) {
		wantSlow(t, s)
		if n == 0 {
			return
		}
		for _, x := range lines {
			longer(s+x, n-1)
		}
	}
	longer("", 4)
	chance := rand.New(rand.NewSource(13))
	for range 2000 {
		b := []byte(bytesOf(ordinary()))
		for range 1 + chance.Intn(4) {
			at := chance.Intn(len(b))
			b = slices.Replace(b, at, at+chance.Intn(2), byte(chance.Intn(256)))
		}
		wantSlow(t, string(b))
	}
}

// Rule R1: bytes that are much longer than may be are answered, too.
func TestDecodeHuge(t *testing.T) {
	wantUnread(t, sample.Text(1<<20), api.ErrBad)
	wantUnread(t, strings.Repeat("\n", 1<<20), api.ErrBad)
	wantUnread(t, "head "+strings.Repeat("a", 1<<22)+"\n", api.ErrLabel)
	wantUnread(t, "head heads/main\n"+strings.Repeat("6", 1<<22)+" tags/a\n", api.ErrBad)
	wantUnread(t, "head heads/main\n"+hexOf('a')+" tags/"+strings.Repeat("a", 1<<22)+"\n", api.ErrLabel)
	lines := strings.Repeat(hexOf('a')+" tags/a\n", 1<<16)
	wantUnread(t, "head heads/main\n"+lines, api.ErrMuch)
	wantUnread(t, "head heads/main\n"+lines+"x", api.ErrBad)
}

// Rule R2: what is encoded stays as it is, and what is decoded is the caller's own.
func TestBytesKeep(t *testing.T) {
	r := ordinary()
	s, _ := refs.Encode(r)
	if !same(r, ordinary()) {
		t.Error(show(r))
	}
	got, _ := refs.Decode(s)
	clear(got.List)
	clear(r.List)
	wantMade(t, ordinary(), s)
}
