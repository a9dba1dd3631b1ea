package sum_test

import (
	"crypto/sha256"
	"encoding/hex"
	"strings"
	"testing"

	"pollard/api"
	"pollard/sample"
	"pollard/sum"
)

// want is the sum by the library's own SHA-256.
func want(t string) string {
	s := sha256.Sum256([]byte(t))
	return string(s[:])
}

func check(t *testing.T, what, got, wanted string) {
	t.Helper()
	if got != wanted {
		t.Errorf("%s: %x, wanted %x", what, got, wanted)
	}
}

// Promise 1.1: sums that are told by FIPS 180-4 and its examples.
func TestOfKnown(t *testing.T) {
	for _, c := range []struct{ text, sum string }{
		{"", "e3b0c44298fc1c149afbf4c8996fb92427ae41e4649b934ca495991b7852b855"},
		{"abc", "ba7816bf8f01cfea414140de5dae2223b00361a396177a9cb410ff61f20015ad"},
		{"abcdbcdecdefdefgefghfghighijhijkijkljklmklmnlmnomnopnopq", "248d6a61d20638b8e5c026930c3e6039a33ce45964ff2167f6ecedd419db06c1"},
		{"abcdefghbcdefghicdefghijdefghijkefghijklfghijklmghijklmnhijklmnoijklmnopjklmnopqklmnopqrlmnopqrsmnopqrstnopqrstu", "cf5b16a778af8380036ce59e7b0492370b249b11e8f07a51afac45037afee9d1"},
		{strings.Repeat("a", 1000000), "cdc76e5c9914fb9281a1c7e284d73e67f1809a48a497200e046d39ccc7112cd0"},
	} {
		got := sum.Of(c.text)
		if len(got) != api.IDBytes || hex.EncodeToString([]byte(got)) != c.sum {
			t.Errorf("%d bytes: %x, wanted %s", len(c.text), got, c.sum)
		}
	}
}

// Promise 1.1: every length around the ends of blocks, and some long ones.
func TestOfLengths(t *testing.T) {
	for n := range 400 {
		check(t, "all values", sum.Of(sample.Text(n)), want(sample.Text(n)))
		check(t, "noughts", sum.Of(strings.Repeat("\x00", n)), want(strings.Repeat("\x00", n)))
		check(t, "ones", sum.Of(strings.Repeat("\xff", n)), want(strings.Repeat("\xff", n)))
	}
	for _, n := range []int{1 << 12, 1<<16 - 1, 1<<20 + 55, 1<<22 + 56} {
		check(t, "long", sum.Of(sample.Text(n)), want(sample.Text(n)))
	}
}

// Promise 1.1: one byte less or otherwise is another sum.
func TestOfOneByte(t *testing.T) {
	whole := sample.Text(130)
	seen := map[string]int{sum.Of(whole): -1}
	for i := range whole {
		changed := whole[:i] + string([]byte{whole[i] ^ 1}) + whole[i+1:]
		for _, s := range []string{sum.Of(changed), sum.Of(whole[:i])} {
			if at, ok := seen[s]; ok {
				t.Errorf("the sums of %d and %d are the same", at, i)
			}
			seen[s] = i
		}
	}
}

// Promise 1.1: twins are unlike texts of one sum; nobody knows any.
func TestTwin(t *testing.T) {
	long := sample.Text(1000)
	for _, c := range []api.Twins{
		{},
		{One: "a", Other: "a"},
		{One: long, Other: strings.Clone(long)},
		{One: "a", Other: "b"},
		{One: "", Other: "a"},
		{One: "a", Other: ""},
		{One: "", Other: "\x00"},
		{One: "ab", Other: "ba"},
		{One: "a", Other: "a\x80"},
		{One: long, Other: long[:999]},
		{One: long, Other: long + "\x00"},
		{One: "a", Other: sum.Of("a")},
	} {
		if sum.Twin(c) {
			t.Errorf("%q and %q are told as twins", c.One, c.Other)
		}
	}
}

// Promise 1.2: one that has taken in nothing, and one that was made without New.
func TestNothing(t *testing.T) {
	check(t, "new", sum.New().Sum(), want(""))
	s := sum.New()
	s.Write("")
	check(t, "empty piece", s.Sum(), want(""))
	var zero sum.State
	check(t, "zero", zero.Sum(), want(""))
	zero.Write("abc")
	check(t, "zero, then abc", zero.Sum(), want("abc"))
}

// Promise 1.2: pieces of every size make up the same text.
func TestPieces(t *testing.T) {
	whole := sample.Text(321)
	for size := 1; size <= len(whole); size++ {
		s := sum.New()
		for at := 0; at < len(whole); at += size {
			s.Write(whole[at:min(at+size, len(whole))])
			s.Write("")
		}
		check(t, "pieces", s.Sum(), want(whole))
	}
	for at := range len(whole) + 1 {
		s := sum.New()
		s.Write(whole[:at])
		s.Write(whole[at:])
		check(t, "two pieces", s.Sum(), want(whole))
	}
}

// Promise 1.2: a sum is of all bytes so far, and more may come behind it.
func TestSumBetween(t *testing.T) {
	for _, size := range []int{1, 7, 55, 56, 63, 64, 65, 128, 200} {
		s := sum.New()
		all := ""
		for i := range 40 {
			check(t, "so far", s.Sum(), want(all))
			check(t, "asked again", s.Sum(), want(all))
			piece := sample.Text(size + i)
			s.Write(piece)
			all += piece
		}
		check(t, "all", s.Sum(), want(all))
	}
}

// Promise 1.2: a nil one takes in nothing, and its sum is empty.
func TestNil(t *testing.T) {
	var s *sum.State
	s.Write("abc")
	s.Write("")
	check(t, "nil", s.Sum(), "")
}

// Promise 1.2: what one takes in does not come to another one, nor does it change with the bytes it was made of.
func TestApart(t *testing.T) {
	a, b := sum.New(), sum.New()
	bytes := []byte("first")
	a.Write(string(bytes))
	copy(bytes, "other")
	b.Write(string(bytes))
	sumA := a.Sum()
	a.Write("more")
	check(t, "told ahead", sumA, want("first"))
	check(t, "one", a.Sum(), want("firstmore"))
	check(t, "other", b.Sum(), want("other"))
}

func BenchmarkOf(b *testing.B) {
	t := sample.Text(1 << 20)
	b.SetBytes(int64(len(t)))
	for range b.N {
		sum.Of(t)
	}
}
