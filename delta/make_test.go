package delta_test

import (
	"strings"
	"testing"

	"pollard/delta"
	"pollard/sample"
)

// block is a text of just one block.
const block = "0123456789abcdef"

// Promise 9.1, Make: deltas that are written out.
func TestMakeKnown(t *testing.T) {
	wantMake(t, "", "", "\x00\x00")
	wantMake(t, "", "a", "\x00\x01\x00a")
	wantMake(t, "", "abc", "\x00\x03\x04abc")
	wantMake(t, "abc", "", "\x03\x00")
	wantMake(t, block, block, "\x10\x10\x1f\x00")
	wantMake(t, block, "a"+block+"bc", "\x10\x13\x00a\x1f\x00\x02bc")
	wantMake(t, "________________"+block, block, "\x20\x10\x1f\x10")
	wantMake(t, "", strings.Repeat("a", 64), "\x00\x40\x7e"+strings.Repeat("a", 64))
	wantMake(t, "", strings.Repeat("a", 65), "\x00\x41\x80\x00"+strings.Repeat("a", 65))
	wantMake(t, fresh(128)+block, block, "\x80\x10\x10\x1f\x80\x00")
	long := strings.Repeat(block, 10)
	wantMake(t, long, long, "\x80\x20\x80\x20\x81\x3f\x00")
}

// Promise 9.1, Make: an empty base, an empty text, both.
func TestMakeEmpty(t *testing.T) {
	for n := range 100 {
		s := sample.Text(n)
		wantMake(t, s, "", told(n, 0))
		if n > 0 {
			wantMake(t, "", s, told(0, n)+put(s))
		}
	}
	wantMake(t, "", "", told(0, 0))
}

// Promise 9.1, Make, with the chapter's example: a text of itself is one step that takes all from 16 bytes on; of fewer it is put.
func TestMakeOfItself(t *testing.T) {
	for n := 1; n < 16; n++ {
		for _, s := range []string{fresh(n), strings.Repeat("a", n)} {
			wantMake(t, s, s, told(n, n)+put(s))
		}
	}
	for n := 16; n < 200; n++ {
		for _, s := range []string{fresh(n), sample.Text(n), strings.Repeat("a", n), strings.Repeat("ab", n)[:n], strings.Repeat(block, n)[:n]} {
			wantMake(t, s, s, told(n, n)+taken(0, n))
		}
	}
	for _, n := range []int{1000, 1 << 14, 1 << 20} {
		s := sample.Text(n)
		wantMake(t, s, s, told(n, n)+taken(0, n))
	}
}

// Promise 9.1, Make: a text of itself with something behind it, ahead of it, at both ends, and cut at either end.
func TestMakeBehindAndAhead(t *testing.T) {
	for _, n := range []int{16, 17, 31, 32, 33, 100} {
		s := fresh(n)
		for _, more := range []string{"x", "xy", strings.Repeat("x", 15), strings.Repeat("x", 16), strings.Repeat("x", 70)} {
			k := len(more)
			wantMake(t, s, s+more, told(n, n+k)+taken(0, n)+put(more))
			wantMake(t, s, more+s, told(n, n+k)+put(more)+taken(0, n))
			wantMake(t, s, more+s+more, told(n, n+2*k)+put(more)+taken(0, n)+put(more))
			wantMake(t, s, s+more+s, told(n, 2*n+k)+taken(0, n)+put(more)+taken(0, n))
			wantMake(t, s+more, s, told(n+k, n)+taken(0, n))
		}
		wantMake(t, s, s+s+s, told(n, 3*n)+taken(0, n)+taken(0, n)+taken(0, n))
	}
	s := fresh(64)
	wantMake(t, s, s[:40], told(64, 40)+taken(0, 40))
	wantMake(t, s, s[16:], told(64, 48)+taken(16, 48))
	wantMake(t, s, s[20:], told(64, 44)+put(s[20:32])+taken(32, 32))
	wantMake(t, s, s[:15], told(64, 15)+put(s[:15]))
	wantMake(t, s, s[1:31], told(64, 30)+put(s[1:31]))
	wantMake(t, s, s[1:32], told(64, 31)+put(s[1:16])+taken(16, 16))
}

// Promise 9.1, Make: what is the same ahead of a block is put, since only what is behind its place is looked at.
func TestMakeNotBackward(t *testing.T) {
	base := fresh(48)
	wantMake(t, base, "x"+base[10:40], told(48, 31)+put("x"+base[10:16])+taken(16, 24))
}

// Promise 9.1, Make: of blocks that stand twice in the base the first place is taken, though from another one on more is the same.
func TestMakeTwice(t *testing.T) {
	other := "zyxwvutsrqponmlk"
	wantMake(t, block+block, block, told(32, 16)+taken(0, 16))
	wantMake(t, other+block+block, block, told(48, 16)+taken(16, 16))
	wantMake(t, other+block+block+"end", block+"end", told(51, 19)+taken(16, 16)+put("end"))
	wantMake(t, block+other+block+"and more", block+"and more", told(56, 24)+taken(0, 16)+put("and more"))
	wantMake(t, block+other+block+other+"-", block+other+"-", told(65, 33)+taken(0, 32)+put("-"))
	wantMake(t, block+"x"+other+block, block+block, told(49, 32)+taken(0, 16)+taken(0, 16))
	// Where it stands across two blocks it is none, however far ahead.
	wantMake(t, "x"+block+other[:15]+block, block, told(48, 16)+taken(32, 16))
	// What goes on past the first place goes on there, through the second one.
	wantMake(t, block+block+block, block+block, told(48, 32)+taken(0, 32))
	wantMake(t, block+block, block+block+block, told(32, 48)+taken(0, 32)+taken(0, 16))
}

// Promise 9.1, Make: what is the same goes on past the block, to a byte that differs, to the text's end or to the base's.
func TestMakeGoesOn(t *testing.T) {
	base := fresh(80)
	for n := 16; n <= 64; n++ {
		wantMake(t, base, base[16:16+n], told(80, n)+taken(16, n))
		if n < 64 {
			wantMake(t, base, base[16:16+n]+"#", told(80, n+1)+taken(16, n)+put("#"))
			wantMake(t, base, base[16:16+n]+"#"+base, told(80, n+81)+taken(16, n)+put("#")+taken(0, 80))
		}
	}
	wantMake(t, base, base[16:]+"#", told(80, 65)+taken(16, 64)+put("#"))
	wantMake(t, base, base[16:]+base[32:], told(80, 112)+taken(16, 64)+taken(32, 48))
	// Behind it the text goes on where it is, not where the base has a block.
	wantMake(t, base, base[:20]+base[36:52], told(80, 36)+taken(0, 20)+put(base[36:52]))
	wantMake(t, base, base[:20]+base[48:64], told(80, 36)+taken(0, 20)+taken(48, 16))
}

// Promise 9.1, Make: a last piece of the base that is shorter than a block is none, but what is the same goes on into it.
func TestMakeShortPiece(t *testing.T) {
	for n := 1; n < 16; n++ {
		end := "-/-/-/-/-/-/-/-"[:n]
		base := block + end
		wantMake(t, base, end, told(16+n, n)+put(end))
		wantMake(t, base, "x"+end, told(16+n, n+1)+put("x"+end))
		wantMake(t, base, base, told(16+n, 16+n)+taken(0, 16+n))
		wantMake(t, end, end+block, told(n, n+16)+put(end+block))
		wantMake(t, base, base[n:], told(16+n, 16)+put(base[n:]))
	}
	wantMake(t, block[:15], block, told(15, 16)+put(block))
	wantMake(t, block, block[:15], told(16, 15)+put(block[:15]))
}

// Promise 9.1, Make: a text that has nothing in common with the base is one step that puts all.
func TestMakeNothingSame(t *testing.T) {
	for _, base := range []string{"", "a", block, strings.Repeat(block, 20), sample.Text(4000)} {
		for n := 1; n < 300; n++ {
			s := strings.Repeat("#", n)
			wantMake(t, base, s, told(len(base), n)+put(s))
		}
		s := strings.Repeat("=-", 5000)
		wantMake(t, base, s, told(len(base), len(s))+put(s))
	}
	// Fewer bytes than a block has are not looked for, and blocks with one byte otherwise are others.
	for i := range 16 {
		s := block[:i] + "#" + block[i+1:]
		wantMake(t, block, s, told(16, 16)+put(s))
	}
}

// Promise 9.1, Make: any bytes are as good as letters.
func TestMakeBytes(t *testing.T) {
	for b := range 256 {
		one := string([]byte{byte(b)})
		base := strings.Repeat(one, 40)
		wantMake(t, base, "ab"+base+base, slowMake(base, "ab"+base+base))
		differs := string([]byte{byte(b + 1)})
		wantMake(t, base+differs+block, one+base, told(57, 41)+taken(0, 40)+put(one))
	}
}

// Promises 9.1 and 9.2: texts of few letters, put together of blocks and of pieces of them, are made as the slow one does, and come out again.
func TestMakeByChance(t *testing.T) {
	seed := sample.Text(1 << 16)
	for i := 0; i+700 < len(seed); i += 61 {
		letters := 1 + int(seed[i])%3
		base, s := make([]byte, seed[i+1]), make([]byte, seed[i+2])
		for j := range base {
			base[j] = 'a' + seed[i+3+j%(1+int(seed[i]))]%byte(letters)
		}
		for j := range s {
			s[j] = 'a' + seed[i+303+j%(1+int(seed[i]))]%byte(letters)
		}
		wantMake(t, string(base), string(s), slowMake(string(base), string(s)))
	}
	for i := 0; i+2000 < len(seed); i += 331 {
		base, s := seed[i:i+400+int(seed[i])], ""
		for j := range 20 {
			from, n := int(seed[i+700+2*j]), int(seed[i+701+2*j])%90
			s += base[from:][:n]
			if n%3 == 0 {
				s += seed[i+1000+j:][:n%7]
			}
		}
		wantMake(t, base, s, slowMake(base, s))
	}
}

// Promise 9.2: Apply of Make is the text, for bases and texts of many kinds, each with each.
func TestApplyOfMake(t *testing.T) {
	var l []string
	for _, n := range []int{0, 1, 15, 16, 17, 31, 32, 33, 100, 1000, 5000} {
		s := sample.Text(n)
		l = append(l, s, fresh(n), strings.Repeat("a", n), strings.Repeat("abc", n), strings.Repeat("\x00", n), s[n/2:]+s[:n/2], s[:n/3]+"other"+s[n/2:], strings.Repeat(s, 3))
	}
	l = append(l, block, "äöü€😀", strings.Repeat("line\n", 50), strings.Repeat("line\n", 49)+"other\n", "\xff\xfe")
	for _, base := range l {
		for _, s := range l {
			d := delta.Make(base, s)
			wantApply(t, base, d, len(s), s)
			wantApply(t, base, d, 1<<62, s)
		}
	}
}

// Promises 9.1 and 9.2: great texts, with a little otherwise in each piece.
func TestMakeGreat(t *testing.T) {
	base := sample.Text(1 << 20)
	b := []byte(base)
	for i := 1000; i < len(b); i += 5000 {
		b[i] ^= 1
	}
	s := string(b)
	d := delta.Make(base, s)
	if len(d) > len(s)/100 {
		t.Errorf("%d bytes of %d", len(d), len(s))
	}
	wantApply(t, base, d, len(s), s)
	one := strings.Repeat("a", 1<<20)
	wantMake(t, one, one+"b"+one, told(1<<20, 1<<21+1)+taken(0, 1<<20)+put("b")+taken(0, 1<<20))
	none := strings.Repeat("a", 15) + "b"
	none = strings.Repeat(none, 1<<16)
	wantMake(t, one, none, told(1<<20, 1<<20)+put(none))
}

func BenchmarkMake(b *testing.B) {
	base := sample.Text(1 << 18)
	for _, c := range []struct{ name, s string }{{"same", base}, {"other", sample.Text(1<<18 + 1)}} {
		b.Run(c.name, func(b *testing.B) {
			b.SetBytes(int64(len(c.s)))
			for range b.N {
				delta.Make(base, c.s)
			}
		})
	}
}
