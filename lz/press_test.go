package lz_test

import (
	"strings"
	"testing"

	"pollard/api"
	"pollard/lz"
	"pollard/sample"
)

// Promise 4.1, with the chapter's example: pressed bytes that are written out.
func TestPressKnown(t *testing.T) {
	wantPress(t, "aaaaaaaa", "\x08\x01a\x01\x03")
	wantPress(t, "", "\x00")
	wantPress(t, "a", "\x01\x01a")
	wantPress(t, "abcdabcd", "\x08\x04abcd\x04\x00")
	wantPress(t, strings.Repeat("a", 200), "\x80\x48\x01a\x01\x80\x43")
}

// Promise 4.1: texts of less than four bytes, and of so few that nothing comes again, stand for themselves.
func TestPressShort(t *testing.T) {
	for _, s := range []string{"a", "aa", "aaa", "ab", "abc", "aba", "\x00", "\x00\x00", "\xff\xff\xff", "aaaa", "abab", "ababa", "abcabc", "abcdabc", "abcdefabc", "ä", "€€"} {
		wantPress(t, s, told(len(s), len(s), s))
	}
}

// Promise 4.1: a text that comes again and again, and repetitions that run into themselves.
func TestPressAgain(t *testing.T) {
	wantPress(t, "aaaaa", told(5, 1, "a", 1, 0))
	wantPress(t, "aaaaaa", told(6, 1, "a", 1, 1))
	wantPress(t, "aaaaab", told(6, 1, "a", 1, 0, 1, "b"))
	wantPress(t, "ababab", told(6, 2, "ab", 2, 0))
	wantPress(t, "abababa", told(7, 2, "ab", 2, 1))
	wantPress(t, "abcabcabca", told(10, 3, "abc", 3, 3))
	wantPress(t, strings.Repeat("\x00", 1000), told(1000, 1, "\x00", 1, 995))
	wantPress(t, strings.Repeat("ab", 500), told(1000, 2, "ab", 2, 994))
	wantPress(t, strings.Repeat("abcdefgh", 100)+"tail", told(804, 8, "abcdefgh", 8, 788, 4, "tail"))
	long := fresh(300)
	wantPress(t, long+long+long, told(900, 300, long, 300, 596))
}

// Promise 4.1: a repetition goes as far as the bytes are the same, and no farther; what follows it at once has no bytes ahead of it that stand for themselves.
func TestPressEnds(t *testing.T) {
	wantPress(t, "abcdefg1abcdefg2", told(16, 8, "abcdefg1", 8, 3, 1, "2"))
	wantPress(t, "abcd1abcd2", told(10, 5, "abcd1", 5, 0, 1, "2"))
	wantPress(t, "abcd1efgh2efghabcd", told(18, 10, "abcd1efgh2", 5, 0, 0, 14, 0))
	wantPress(t, "abcdefgh1efghabcd", told(17, 9, "abcdefgh1", 5, 0, 0, 13, 0))
	wantPress(t, "aaaaabbbbb", told(10, 1, "a", 1, 0, 1, "b", 1, 0))
	wantPress(t, "abcdabcdabc", told(11, 4, "abcd", 4, 3))
	wantPress(t, "abcd1abcdabc", told(12, 5, "abcd1", 5, 0, 3, "abc"))
}

// Promise 4.1: of several places ahead the last one is taken, though one farther back has more of the same bytes.
func TestPressLastPlace(t *testing.T) {
	wantPress(t, "abcdefgh1abcdx2abcdefgh", told(23, 9, "abcdefgh1", 9, 0, 2, "x2", 6, 0, 0, 15, 0))
	wantPress(t, "abcd1abcd2abcd3", told(15, 5, "abcd1", 5, 0, 1, "2", 5, 0, 1, "3"))
	wantPress(t, "abcde1abcde2abcde", told(17, 6, "abcde1", 6, 1, 1, "2", 6, 1))
}

// Promise 4.1: places within repetitions count, too, at their ends as well, and so does the place where one begins.
func TestPressPlacesWithin(t *testing.T) {
	wantPress(t, "abcdabcdabcdXdabc", told(17, 4, "abcd", 4, 4, 1, "X", 6, 0))
	wantPress(t, "abcdabcdabcdXcdab", told(17, 4, "abcd", 4, 4, 1, "X", 7, 0))
	wantPress(t, "abcdabcdabcdXabcd", told(17, 4, "abcd", 4, 4, 1, "X", 5, 0))
	wantPress(t, "abcdabcdX1bcdX", told(14, 4, "abcd", 4, 0, 2, "X1", 5, 0))
	wantPress(t, "abcdabcdXYZ1dXYZ", told(16, 4, "abcd", 4, 0, 4, "XYZ1", 5, 0))
	wantPress(t, "1abcd2abcd3abcd", told(15, 6, "1abcd2", 5, 0, 1, "3", 5, 0))
	wantPress(t, "aaaaaaaaXaaaa", told(13, 1, "a", 1, 3, 1, "X", 5, 0))
	wantPress(t, "abcdef1abcdef2cdef", told(18, 7, "abcdef1", 7, 2, 1, "2", 5, 0))
}

// Promise 4.1: what is just Far back is told as a repetition, what is one byte farther is not.
func TestPressFar(t *testing.T) {
	for _, ahead := range []string{"", "some bytes ahead"} {
		for _, same := range []string{"WXYZ", "WXYZ and more"} {
			near := ahead + same + fresh(api.Far-len(same))
			wantPress(t, near+same, told(len(near)+len(same), len(near), near, api.Far, len(same)-4))
			far := ahead + same + fresh(api.Far+1-len(same)) + same
			if len(same) == 4 {
				wantPress(t, far, told(len(far), len(far), far))
			}
		}
	}
	between := fresh(api.Far - 8)
	s := "WXYZ" + "WXYZ" + between + "WXYZ"
	wantPress(t, s, told(len(s), 4, "WXYZ", 4, 0, len(between), between, api.Far-4, 0))
}

// Promise 4.1: what is one byte too far at its beginning is found where it comes again nearer.
func TestPressFarNearer(t *testing.T) {
	between := fresh(api.Far - 3)
	s := "WXYZ" + between + "WXYZ" + "1" + "WXYZ"
	wantPress(t, s, told(len(s), api.Far+6, "WXYZ"+between+"WXYZ1", 5, 0))
	// Far bounds how far back a repetition begins, not how long it is.
	long := fresh(api.Far)
	wantPress(t, long+long+long, told(3*api.Far, api.Far, long, api.Far, 2*api.Far-4))
}

// Promises 4.1 and 4.2: a text of just MostPlain bytes, and of one more.
func TestPressMost(t *testing.T) {
	const most = api.MostPlain
	s := fresh(most)
	wantPress(t, s, told(most, most, s))
	wantPress(t, strings.Repeat("a", most), told(most, 1, "a", 1, most-5))
	wantPress(t, strings.Repeat("ab", most/2), told(most, 2, "ab", 2, most-6))
	for _, s := range []string{s + "a", strings.Repeat("a", most+1), strings.Repeat("ab", most)} {
		if p, e := lz.Press(s); p != "" || e != api.ErrMuch {
			t.Errorf("Press of %d bytes: %d bytes, %d", len(s), len(p), e)
		}
	}
}

// Promises 4.1 and 4.2: all texts of few letters are pressed as the slow one does, and spread again.
func TestPressAllShort(t *testing.T) {
	for n := range 11 {
		for k := range 1 << n {
			s := make([]byte, n)
			for i := range s {
				s[i] = 'a' + byte(k>>i&1)
			}
			wantPress(t, string(s), slowPress(string(s)))
		}
	}
}

// Promises 4.1 and 4.2: texts by chance, of few letters and of many, of pieces that come again.
func TestPressByChance(t *testing.T) {
	seed := sample.Text(1 << 16)
	for i := 0; i+400 < len(seed); i += 157 {
		letters, n := 1+int(seed[i])%12, 2*int(seed[i+1])
		s := make([]byte, n)
		for j := range s {
			s[j] = seed[i+2+j%300] % byte(letters)
		}
		wantPress(t, string(s), slowPress(string(s)))
	}
	for i := 0; i+1000 < len(seed); i += 1237 {
		s := ""
		for j := range 60 {
			from, n := int(seed[i+2*j])*2, int(seed[i+2*j+1])%30
			s += seed[i+from : i+from+n]
		}
		wantPress(t, s, slowPress(s))
	}
}

// Promises 4.1 and 4.2: pieces that come again from about Far back, some of them too far.
func TestPressByChanceFar(t *testing.T) {
	const ahead = 4000
	s := fresh(ahead) + strings.Repeat("-", api.Far-ahead)
	steps := sample.Text(2000)
	for i := 0; i < len(steps); i += 5 {
		from := (int(steps[i])<<8 | int(steps[i+1])) % ahead
		s += s[from:][:4+steps[i+2]%20] + steps[i+3:i+5]
	}
	wantPress(t, s, slowPress(s))
}

// Promise 4.2: what was pressed is spread again.
func TestSpreadAgain(t *testing.T) {
	for n := range 300 {
		for _, s := range []string{sample.Text(n), fresh(n), strings.Repeat("abc", n), strings.Repeat(sample.Text(n), 3)} {
			p, e := lz.Press(s)
			if e != api.OK {
				t.Fatal(len(s), e)
			}
			wantSpread(t, p, len(s), s, api.OK)
			wantSpread(t, p, 1<<62, s, api.OK)
		}
	}
	s := sample.Text(api.MostPlain)
	p, _ := lz.Press(s)
	wantSpread(t, p, len(s), s, api.OK)
}

func BenchmarkPress(b *testing.B) {
	s := sample.Text(1 << 20)
	b.SetBytes(int64(len(s)))
	for range b.N {
		if _, e := lz.Press(s); e != api.OK {
			b.Fatal(e)
		}
	}
}
