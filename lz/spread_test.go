package lz_test

import (
	"strings"
	"testing"

	"pollard/api"
	"pollard/lz"
	"pollard/sample"
)

// great is the greatest number that is read: nine bytes.
const great = uint64(9295997013522923647)

// Promise 4.1: bytes that Press would not make are spread, too, if they are well formed.
func TestSpreadOtherForms(t *testing.T) {
	wantSpread(t, told(0), 0, "", api.OK)
	wantSpread(t, told(8, 8, "aaaaaaaa"), 8, "aaaaaaaa", api.OK)
	wantSpread(t, told(9, 1, "a", 1, 0, 0, 1, 0), 9, "aaaaaaaaa", api.OK)
	wantSpread(t, told(9, 1, "a", 1, 0, 0, 5, 0), 9, "aaaaaaaaa", api.OK)
	wantSpread(t, told(10, 5, "abcda", 5, 1), 10, "abcdaabcda", api.OK)
	wantSpread(t, told(6, 2, "ab", 1, 0), 6, "abbbbb", api.OK)
	wantSpread(t, told(7, 2, "ab", 1, 0, 1, "c"), 7, "abbbbbc", api.OK)
	wantSpread(t, told(7, 3, "abc", 3, 0), 7, "abcabca", api.OK)
	wantSpread(t, told(7, 3, "abc", 2, 0), 7, "abcbcbc", api.OK)
}

// Promise 4.1: bytes that are cut anywhere end too soon, whatever number or bytes are cut.
func TestSpreadCut(t *testing.T) {
	for _, s := range []string{"", "a", "aaaaaaaa", "abcdefgh1abcdx2abcdefgh", strings.Repeat(fresh(200), 3) + "tail", strings.Repeat("a", 5000) + fresh(300)} {
		p, e := lz.Press(s)
		if e != api.OK {
			t.Fatal(e)
		}
		for i := range len(p) {
			wantError(t, p[:i], len(s), api.ErrEnd)
		}
	}
}

// Promise 4.1: a number's own errors, in each of the four places where numbers stand.
func TestSpreadNumbers(t *testing.T) {
	for _, ahead := range []string{"", told(8), told(8, 1, "a"), told(8, 1, "a", 1), told(10, 1, "a", 1, 0), told(10, 1, "a", 1, 0, 0)} {
		for n := range 9 {
			wantError(t, ahead+strings.Repeat("\x80", n), 99, api.ErrEnd)
			wantError(t, ahead+strings.Repeat("\xff", n), 99, api.ErrEnd)
		}
		for _, bad := range []string{strings.Repeat("\x80", 9), strings.Repeat("\xff", 9), strings.Repeat("\x80", 9) + "\x00", strings.Repeat("\x80", 30)} {
			wantError(t, ahead+bad, 99, api.ErrBad)
		}
		wantError(t, ahead+told(great)+"more", 99, api.ErrBad)
	}
	for _, ahead := range []string{"", told(8), told(8, 1, "a", 1), told(10, 1, "a", 1, 0)} {
		wantError(t, ahead+told(great), 99, api.ErrBad)
	}
}

// Promise 4.1: that the second number of a repetition can't be read comes ahead of where the first one goes back to.
func TestSpreadNumbersFirst(t *testing.T) {
	far := sample.Text(api.Far + 2)
	for _, c := range []struct {
		ahead string
		backs []uint64
	}{
		{told(8, 1, "a"), []uint64{0, 2, 3, 127, 128, api.Far, api.Far + 1, 1 << 32, 1 << 63, great}},
		{told(8, 0), []uint64{0, 1, 2, great}},
		{told(2, 1, "a"), []uint64{0, 2, great}},
		{told(20, 1, "a", 1, 0, 0), []uint64{0, 6, 7, great}},
		{told(20, 1, "a", 1, 0, 2, "bc"), []uint64{0, 8, great}},
		{told(len(far)+5, len(far), far), []uint64{0, api.Far + 1, api.Far + 2, api.Far + 3, great}},
	} {
		for _, back := range c.backs {
			p := c.ahead + told(back)
			for n := range 9 {
				wantError(t, p+strings.Repeat("\x80", n), 1<<20, api.ErrEnd)
				wantError(t, p+strings.Repeat("\xff", n), 1<<20, api.ErrEnd)
			}
			wantError(t, p+strings.Repeat("\x80", 9), 1<<20, api.ErrBad)
			for _, more := range []uint64{0, 1, 100, great} {
				wantError(t, p+told(more), 1<<20, api.ErrBad)
				wantError(t, p+told(more)+"more", 1<<20, api.ErrBad)
			}
		}
	}
}

// Promise 4.1: a first number above MostPlain is bad ahead of being above most; otherwise being above most comes ahead of all that is wrong behind it.
func TestSpreadFirstNumber(t *testing.T) {
	const most = api.MostPlain
	s := strings.Repeat("a", most)
	wantSpread(t, told(most, 1, "a", 1, most-5), most, s, api.OK)
	for _, n := range []uint64{most + 1, 1 << 31, 1 << 32, 1<<32 + 8, 1 << 63, 1<<63 + 8, great} {
		for _, room := range []int{most, most + 1, 1<<63 - 1, 8, 0, -1, -1 << 63} {
			wantError(t, told(n), room, api.ErrBad)
			wantError(t, told(n, 1, "a", 1, n-5), room, api.ErrBad)
		}
	}
	for _, behind := range []string{"", "\x01", "\x80", strings.Repeat("\x80", 9), told(8, "aaaaaaaa"), told(9, "aaaaaaaaa"), told(0, 1), told(8, "aaaaaaaamore")} {
		for _, room := range []int{7, 1, 0, -1, -8, -1 << 63} {
			wantError(t, told(8)+behind, room, api.ErrMuch)
		}
	}
	wantError(t, told(most, 1, "a", 1, most-5), most-1, api.ErrMuch)
}

// Promise 4.1: most just as great as the first number, greater, and one less; below 0 there is no text, not even the empty one.
func TestSpreadMostBytes(t *testing.T) {
	p := told(8, 1, "a", 1, 3)
	for _, room := range []int{8, 9, 1 << 20, 1<<63 - 1} {
		wantSpread(t, p, room, "aaaaaaaa", api.OK)
	}
	wantError(t, p, 7, api.ErrMuch)
	wantSpread(t, told(0), 0, "", api.OK)
	wantSpread(t, told(0), 1, "", api.OK)
	wantError(t, told(0), -1, api.ErrMuch)
	wantError(t, told(0)+"more", -1, api.ErrMuch)
	wantError(t, "", -1, api.ErrEnd)
	wantError(t, "\x80", -1, api.ErrEnd)
}

// Promise 4.1: more bytes that stand for themselves than are left of the text are bad, though they are missing, too; just so many are an end.
func TestSpreadAlone(t *testing.T) {
	wantError(t, told(4, 5, "abcde"), 99, api.ErrBad)
	wantError(t, told(4, 5, "abcd"), 99, api.ErrBad)
	wantError(t, told(4, 5), 99, api.ErrBad)
	wantError(t, told(4, 1<<32, "abcd"), 99, api.ErrBad)
	wantError(t, told(9, 1, "a", 1, 0, 5, "abcde"), 99, api.ErrBad)
	wantError(t, told(9, 1, "a", 1, 0, 5), 99, api.ErrBad)
	for n := range 4 {
		wantError(t, told(4, 4, "abcd"[:n]), 99, api.ErrEnd)
		wantError(t, told(9, 1, "a", 1, 0, 4, "abcd"[:n]), 99, api.ErrEnd)
		wantError(t, told(99, 4, "abcd"[:n]), 99, api.ErrEnd)
	}
	wantSpread(t, told(9, 1, "a", 1, 0, 4, "abcd"), 99, "aaaaaabcd", api.OK)
}

// Promise 4.1: a repetition goes back by 1 at least, and not ahead of the text.
func TestSpreadBack(t *testing.T) {
	wantError(t, told(8, 1, "a", 2, 3), 99, api.ErrBad)
	wantError(t, told(8, 1, "a", 0, 3), 99, api.ErrBad)
	wantError(t, told(8, 0, 1, 4), 99, api.ErrBad)
	wantError(t, told(8, 0, 0, 4), 99, api.ErrBad)
	for back := 1; back <= 3; back++ {
		wantSpread(t, told(7, 3, "abc", back, 0), 99, "abc"+strings.Repeat("abc"[3-back:], 4)[:4], api.OK)
	}
	wantError(t, told(7, 3, "abc", 4, 0), 99, api.ErrBad)
	for _, back := range []uint64{5, 1 << 15, 1<<15 + 1, 1 << 32, 1<<32 + 1, 1 << 63, 1<<63 + 1, great} {
		wantError(t, told(7, 3, "abc", back, 0), 99, api.ErrBad)
	}
	wantError(t, told(7, 3, "abc", 3), 99, api.ErrEnd)
	wantError(t, told(7, 3, "abc", 3)+"\x80", 99, api.ErrEnd)
}

// Promise 4.1: a repetition just Far back, and one byte farther in a text that goes as far.
func TestSpreadFar(t *testing.T) {
	s := sample.Text(api.Far + 10)
	size := len(s) + 5
	wantSpread(t, told(size, len(s), s, api.Far, 1), size, s+s[10:15], api.OK)
	for back := api.Far + 1; back <= api.Far+12; back++ {
		wantError(t, told(size, len(s), s, back, 1), size, api.ErrBad)
		wantError(t, told(size, len(s), s, back), size, api.ErrEnd)
	}
	near := sample.Text(api.Far)
	wantSpread(t, told(api.Far+4, api.Far, near, api.Far, 0), 1<<20, near+near[:4], api.OK)
	wantError(t, told(api.Far+3, api.Far-1, near[1:], api.Far, 0), 1<<20, api.ErrBad)
}

// Promise 4.1: a repetition of just what is left, of one more, and where less than the least one is left.
func TestSpreadMore(t *testing.T) {
	wantSpread(t, told(8, 1, "a", 1, 3), 99, "aaaaaaaa", api.OK)
	wantSpread(t, told(5, 1, "a", 1, 0), 99, "aaaaa", api.OK)
	for _, n := range []uint64{4, 5, 7, 8, 100, 1 << 32, 1<<63 - 4, 1 << 63, great} {
		wantError(t, told(8, 1, "a", 1, n), 99, api.ErrBad)
		wantError(t, told(8, 1, "a", 1, n)+"more", 99, api.ErrBad)
	}
	for left := 1; left <= 3; left++ {
		wantError(t, told(1+left, 1, "a", 1, 0), 99, api.ErrBad)
		wantError(t, told(1+left, 1, "a", 1, 1), 99, api.ErrBad)
		wantError(t, told(1+left, 1, "a", 1), 99, api.ErrEnd)
		wantError(t, told(1+left, 1, "a"), 99, api.ErrEnd)
	}
}

// Promise 4.1: bytes that are left behind the whole text; what is wrong ahead of them comes first.
func TestSpreadRest(t *testing.T) {
	for _, s := range []string{"", "a", "aaaaaaaa", "abcdabcdX", sample.Text(300)} {
		p, e := lz.Press(s)
		if e != api.OK {
			t.Fatal(e)
		}
		for _, rest := range []string{"\x00", "x", "\x80", strings.Repeat("\x80", 9), p, "\x00\x01\x00"} {
			wantError(t, p+rest, 9999, api.ErrRest)
			wantError(t, p+rest, len(s), api.ErrRest)
			wantError(t, p+rest, len(s)-1, api.ErrMuch)
		}
	}
	wantError(t, told(8, 1, "a", 1, 3, 0), 99, api.ErrRest)
	wantError(t, told(8, 8, "aaaaaaaa", 1, 0), 99, api.ErrRest)
	wantError(t, told(8, 1, "a", 1, 4)+"x", 99, api.ErrBad)
}

// Promise 4.1: pressed bytes with one bit turned, one byte more or one less are refused or spread as the slow one does.
func TestSpreadSpoilt(t *testing.T) {
	for _, s := range []string{"", "a", "aaaaaaaa", "abcdefgh1abcdx2abcdefgh", strings.Repeat(fresh(150), 2) + "tail"} {
		p, e := lz.Press(s)
		if e != api.OK {
			t.Fatal(e)
		}
		for i := range len(p) {
			for bit := range 8 {
				holdSpread(t, p[:i]+string([]byte{p[i] ^ 1<<bit})+p[i+1:])
			}
			for _, one := range []string{"\x00", "\x01", "\x04", "\x7f", "\x80", "\xff"} {
				holdSpread(t, p[:i]+one+p[i:])
			}
			holdSpread(t, p[:i]+p[i+1:])
		}
	}
}

// Promise 4.1: all bytes of few values, and bytes by chance that look like pressed ones.
func TestSpreadByChance(t *testing.T) {
	for n := range 8 {
		for k := range 1 << (2 * n) {
			p := make([]byte, n)
			for i := range p {
				p[i] = "\x00\x01\x05\x80"[k>>(2*i)&3]
			}
			holdSpread(t, string(p))
		}
	}
	seed := sample.Text(1 << 16)
	for i := 0; i+40 < len(seed); i += 7 {
		p := []byte(seed[i : i+30])
		for j := range p {
			if seed[i+j+1] < 220 {
				p[j] %= 8
			}
		}
		p[0] %= 64
		holdSpread(t, string(p))
	}
}

// holdSpread holds Spread against the slow one, with several bounds.
func holdSpread(t *testing.T, p string) {
	t.Helper()
	for _, most := range []int{-1, 0, 5, 24, 1000} {
		want, wantErr := slowSpread(p, most)
		wantSpread(t, p, most, want, wantErr)
	}
}

func BenchmarkSpread(b *testing.B) {
	s := strings.Repeat(sample.Text(100), 1<<20/100)
	p, e := lz.Press(s)
	if e != api.OK {
		b.Fatal(e)
	}
	b.SetBytes(int64(len(s)))
	for range b.N {
		if _, e := lz.Spread(p, len(s)); e != api.OK {
			b.Fatal(e)
		}
	}
}
