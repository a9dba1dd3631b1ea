package delta_test

import (
	"runtime"
	"strings"
	"testing"

	"pollard/api"
	"pollard/delta"
	"pollard/sample"
)

const mostInt = 1<<63 - 1

// Promise 9.1, Apply: deltas that Make would not make are applied, too, if they are of the form.
func TestApplyOtherForms(t *testing.T) {
	wantApply(t, "abc", told(3, 3)+put("abc"), 3, "abc")
	wantApply(t, "abc", told(3, 3)+taken(0, 3), 3, "abc")
	wantApply(t, "abc", told(3, 1)+taken(0, 1), 3, "a")
	wantApply(t, "abc", told(3, 1)+taken(2, 1), 3, "c")
	wantApply(t, "abc", told(3, 2)+taken(1, 2), 3, "bc")
	wantApply(t, "abc", told(3, 3)+taken(2, 1)+taken(1, 1)+taken(0, 1), 3, "cba")
	wantApply(t, "abc", told(3, 4)+put("x")+put("y")+put("zz"), 4, "xyzz")
	wantApply(t, "abc", told(3, 9)+taken(0, 3)+taken(0, 3)+taken(0, 3), 9, "abcabcabc")
	wantApply(t, "", told(0, 1)+put("x"), 1, "x")
	wantApply(t, "", told(0, 0), 0, "")
	wantApply(t, "a", told(1, 1)+put("\x00"), 1, "\x00")
}

// Promise 9.1, Apply: Unnum's errors of the base's length, of the text's, of a step's number and of a place, of the first step and of later ones.
func TestApplyNumbers(t *testing.T) {
	base := "abcdef"
	for _, ahead := range []string{
		"", told(6),
		told(6, 8), told(6, 8) + put("xy"), told(6, 8) + taken(0, 3), told(6, 8) + taken(0, 3) + put("z"),
		told(6, 8, 1), told(6, 8, 11), told(6, 8) + put("xy") + told(3), told(6, 8) + taken(0, 3) + told(9),
	} {
		for bytes, want := range unnums() {
			wantError(t, base, ahead+bytes, 8, want)
			wantError(t, base, ahead+bytes, mostInt, want)
		}
	}
}

// Promise 9.1, Apply: ErrBad, if the base has another length than the delta tells; it may have other bytes.
func TestApplyOtherBase(t *testing.T) {
	for _, n := range []int{0, 1, 15, 16, 17, 127, 128, 129, 1000} {
		base, s := fresh(n), "x"+fresh(40)
		d := delta.Make(base, s)
		wantApply(t, base, d, len(s), s)
		for _, other := range []string{base + "x", "x" + base, base + base + "x", base + strings.Repeat("\x00", 128)} {
			wantError(t, other, d, len(s), api.ErrBad)
		}
		for k := range n {
			wantError(t, base[:k], d, len(s), api.ErrBad)
		}
	}
	wantApply(t, "abc", told(3, 2)+taken(1, 2), 9, "bc")
	wantApply(t, "xyz", told(3, 2)+taken(1, 2), 9, "yz")
	for _, n := range []uint64{2, 4, 1<<32 + 3, 1 << 62, 1 << 63, 1<<63 + 3, great} {
		wantError(t, "abc", told(n, 2)+taken(1, 2), 9, api.ErrBad)
	}
}

// Promise 9.1, Apply: another length of the base comes ahead of all that stands behind both first numbers, and of a text of more than most; but behind Unnum's errors of these numbers, the text's, too.
func TestApplyOtherBaseFirst(t *testing.T) {
	l := map[string]api.Errno{}
	for bytes, want := range unnums() {
		l[bytes] = want
		l[told(0)+bytes] = api.ErrBad
		l[told(9)+bytes] = api.ErrBad
	}
	for _, behind := range []string{told(0), told(9), told(great), put("x"), told(1) + put("x") + "more", told(1, 4), told(2, 3, 9)} {
		l[behind] = api.ErrBad
	}
	for behind, want := range l {
		for _, most := range []int{-1 << 63, -1, 0, 1, 5, mostInt} {
			for _, n := range []uint64{0, 2, 4, 128, great} {
				wantError(t, "abc", told(n)+behind, most, want)
			}
			wantError(t, "", told(1)+behind, most, want)
		}
	}
	wantError(t, "abc", "", -1, api.ErrEnd)
	wantError(t, "abc", "\x82", -1, api.ErrEnd)
}

// Promise 9.1, Apply: a text of just most bytes, and of one more; below 0 there is no text, not even the empty one.
func TestApplyMost(t *testing.T) {
	for _, n := range []int{0, 1, 15, 16, 127, 128, 1000, 20000} {
		base, s := fresh(100), fresh(n)
		d := delta.Make(base, s)
		for _, most := range []int{n, n + 1, 2*n + 1, mostInt - 1, mostInt} {
			wantApply(t, base, d, most, s)
		}
		for _, most := range []int{n - 1, n/2 - 1, -1, -n - 1, -1 << 63} {
			wantError(t, base, d, most, api.ErrMuch)
		}
	}
}

// Promise 9.1, Apply: a text of more than most comes ahead of all that is wrong with the steps.
func TestApplyMostFirst(t *testing.T) {
	l := []string{"", put("abcde"), put("abcdef") + "more", put("abcdefg"), told(100), taken(0, 6), taken(3, 1), told(1, great), told(great), told(8, "abc")}
	for bytes := range unnums() {
		l = append(l, bytes)
	}
	for _, behind := range l {
		for _, most := range []int{5, 1, 0, -1, -1 << 63} {
			wantError(t, "abc", told(3, 6)+behind, most, api.ErrMuch)
			wantError(t, "", told(0, 6)+behind, most, api.ErrMuch)
		}
		for _, n := range []uint64{1 << 32, 1<<32 + 6, 1 << 62, 1 << 63, 1<<63 + 6, great} {
			for _, most := range []int{6, 0, -1, 1 << 31} {
				wantError(t, "abc", told(3, n)+behind, most, api.ErrMuch)
			}
		}
		for _, n := range []uint64{1 << 63, 1<<63 + 6, great} {
			wantError(t, "abc", told(3, n)+behind, mostInt, api.ErrMuch)
		}
		wantError(t, "abc", told(3, 0)+behind, -1, api.ErrMuch)
	}
}

// Promise 9.1, Apply: a step that tells of more than is left of the text, be it put or taken, whatever stands behind its numbers.
func TestApplyMoreThanLeft(t *testing.T) {
	base := fresh(50)
	for _, ahead := range []string{"", put("xyz"), taken(7, 20), taken(7, 20) + put("xyz")} {
		had, _ := delta.Apply(base, told(50, lenOf(ahead))+ahead, 99)
		for left := 1; left < 20; left++ {
			front := told(50, len(had)+left) + ahead
			piece := sample.Text(left)
			wantApply(t, base, front+put(piece), 99, had+piece)
			wantApply(t, base, front+taken(3, left), 99, had+base[3:3+left])
			for _, more := range []int{1, 2, 29} {
				wantError(t, base, front+put(sample.Text(left+more)), 99, api.ErrBad)
				wantError(t, base, front+taken(0, left+more), 99, api.ErrBad)
				wantError(t, base, front+taken(0, left+more)+"more", 99, api.ErrBad)
				// It is bad though bytes are missing, or the base has none at that place; but not ahead of a place that can't be read.
				wantError(t, base, front+told(2*(left+more-1)), 99, api.ErrBad)
				wantError(t, base, front+told(2*(left+more-1)+1, great), 99, api.ErrBad)
				for bytes, want := range unnums() {
					wantError(t, base, front+told(2*(left+more-1)+1)+bytes, 99, want)
				}
			}
		}
	}
}

// lenOf is how many bytes these steps make of the base of the test above.
func lenOf(steps string) int {
	for n := range 100 {
		if _, e := slowApply(fresh(50), told(50, n)+steps, 99); e == api.OK {
			return n
		}
	}
	return -1
}

// Promise 9.1, Apply: a step that takes bytes which the base has not: from behind its end on, or too many from within it.
func TestApplyBytesNotThere(t *testing.T) {
	for _, size := range []int{0, 1, 2, 16, 40} {
		base := fresh(size)
		for place := range size + 5 {
			for n := 1; n < size+5; n++ {
				for _, d := range []string{told(size, n) + taken(place, n), told(size, n+2) + put("xy") + taken(place, n)} {
					if place+n > size {
						wantError(t, base, d, 99, api.ErrBad)
						wantError(t, base, d+"more", 99, api.ErrBad)
						continue
					}
					want, _ := slowApply(base, d, 99)
					wantApply(t, base, d, 99, want)
				}
			}
		}
	}
	// It comes ahead of what is wrong with later steps.
	for bytes := range unnums() {
		wantError(t, "abc", told(3, 9)+taken(3, 1)+bytes, 9, api.ErrBad)
		wantError(t, "abc", told(3, 9)+taken(1, 3)+bytes, 9, api.ErrBad)
	}
	wantError(t, "abc", told(3, 9)+taken(3, 1)+told(16, "x"), 9, api.ErrBad)
}

// Promise 9.1, Apply: numbers so great that sums of them would run over, in each place where numbers stand.
func TestApplyGreatNumbers(t *testing.T) {
	base := fresh(100)
	var numbers []uint64
	for _, n := range []uint64{1 << 31, 1 << 32, 1 << 33, 1 << 62, 1 << 63} {
		numbers = append(numbers, n-3, n-2, n-1, n, n+1, n+2, n+3, n+50, n-100)
	}
	numbers = append(numbers, great, great-1, great-2)
	for _, n := range numbers {
		wantError(t, base, told(n, 5)+put("abcde"), 9, api.ErrBad)
		wantError(t, base, told(100, n)+put("abcde"), 9, api.ErrMuch)
		for _, size := range []int{1, 5, 100} {
			if n%2 == 0 {
				wantError(t, base, told(100, size, n), size, api.ErrBad)
			} else {
				wantError(t, base, told(100, size, n), size, api.ErrEnd)
			}
			wantError(t, base, told(100, size, n)+strings.Repeat("a", 300), size, api.ErrBad)
			wantError(t, base, told(100, size, n, 0), size, api.ErrBad)
			wantError(t, base, told(100, size, n, n), size, api.ErrBad)
			wantError(t, base, told(100, size, 2*(size-1)+1, n), size, api.ErrBad)
			wantError(t, base, told(100, size+2)+put("xy")+told(2*(size-1)+1, n), size+2, api.ErrBad)
		}
	}
	// Texts of so many bytes that they may be told, but never come to their end.
	for _, n := range []uint64{1 << 40, 1 << 62, mostInt} {
		wantError(t, base, told(100, n), mostInt, api.ErrEnd)
		wantError(t, base, told(100, n)+taken(0, 100), mostInt, api.ErrEnd)
		wantError(t, base, told(100, n)+put("x"), mostInt, api.ErrEnd)
		wantError(t, base, told(100, n, n-1), mostInt, api.ErrEnd)
		wantError(t, base, told(100, n, n/2*2)+"abc", mostInt, api.ErrEnd)
		wantError(t, base, told(100, n, n/2*2+1, 0), mostInt, api.ErrBad)
		wantError(t, base, told(100, n, n/2*2+1, n), mostInt, api.ErrBad)
	}
}

// Promise 9.1, Apply: bytes that are put and missing; all of them, and all but one.
func TestApplyMissing(t *testing.T) {
	for n := 1; n < 200; n++ {
		s := sample.Text(n)
		for k := range n {
			wantError(t, "abc", told(3, n, 2*(n-1), s[:k]), n, api.ErrEnd)
			wantError(t, "abc", told(3, n+3)+taken(0, 3)+told(2*(n-1), s[:k]), n+3, api.ErrEnd)
		}
	}
}

// Promise 9.1, Apply: a delta that is cut anywhere ends too soon.
func TestApplyCut(t *testing.T) {
	base := fresh(300)
	for _, s := range []string{"", "a", base, "new" + base[16:] + "more", base[160:] + base, sample.Text(200) + base[32:100] + "x" + base} {
		d := delta.Make(base, s)
		for i := range len(d) {
			wantError(t, base, d[:i], len(s), api.ErrEnd)
		}
	}
}

// Promise 9.1, Apply: bytes that are left behind the whole text; what is wrong ahead of them comes first.
func TestApplyRest(t *testing.T) {
	base := fresh(100)
	for _, s := range []string{"", "a", base, "x" + base, base + "x", sample.Text(300)} {
		d := delta.Make(base, s)
		for _, rest := range []string{"\x00", "x", "\x80", strings.Repeat("\x80", 9), d, put("x"), taken(0, 1), taken(100, 1), told(great)} {
			wantError(t, base, d+rest, mostInt, api.ErrRest)
			wantError(t, base, d+rest, len(s), api.ErrRest)
			wantError(t, base, d+rest, len(s)-1, api.ErrMuch)
			wantError(t, base+"x", d+rest, len(s), api.ErrBad)
		}
	}
}

// Promise 9.1, Apply: deltas with one bit turned, one byte more or one less are refused or applied as the slow one does.
func TestApplySpoilt(t *testing.T) {
	base := strings.Repeat(block, 2) + "end"
	for _, s := range []string{"", "a", base, "new" + base[16:] + "more", "ab" + base + base} {
		d := delta.Make(base, s)
		for i := range len(d) {
			for bit := range 8 {
				holdApply(t, base, d[:i]+string([]byte{d[i] ^ 1<<bit})+d[i+1:])
			}
			for _, one := range []string{"\x00", "\x01", "\x04", "\x23", "\x7f", "\x80", "\xff"} {
				holdApply(t, base, d[:i]+one+d[i:])
			}
			holdApply(t, base, d[:i]+d[i+1:])
		}
	}
}

// Promise 9.1, Apply: all bytes of few values, and bytes by chance that look like deltas.
func TestApplyByChance(t *testing.T) {
	for n := range 8 {
		for k := range 1 << (2 * n) {
			d := make([]byte, n)
			for i := range d {
				d[i] = "\x00\x01\x05\x80"[k>>(2*i)&3]
			}
			for _, base := range []string{"", "a", "abcde"} {
				holdApply(t, base, string(d))
			}
		}
	}
	seed := sample.Text(1 << 16)
	base := seed[:12]
	for i := 0; i+40 < len(seed); i += 3 {
		d := []byte(seed[i : i+30])
		for j := range d {
			if seed[i+j+1] < 230 {
				d[j] %= 10
			}
		}
		d[1] %= 40
		holdApply(t, base, told(12)+string(d[1:]))
	}
}

// Rule R1: few bytes may tell of a text that no memory has room for; if it is never whole, it isn't begun.
func TestApplyNotBegun(t *testing.T) {
	const size, steps = 1 << 16, 1 << 13
	base := strings.Repeat("a", size)
	for _, c := range []struct {
		n      int
		behind string
		want   api.Errno
	}{{size*steps + 1, "", api.ErrEnd}, {size*steps + 1, taken(size, 1), api.ErrBad}, {size*steps - 1, "", api.ErrBad}, {size * steps, "x", api.ErrRest}} {
		d := told(size, c.n) + strings.Repeat(taken(0, size), steps) + c.behind
		var ahead, behind runtime.MemStats
		runtime.ReadMemStats(&ahead)
		wantError(t, base, d, mostInt, c.want)
		runtime.ReadMemStats(&behind)
		if got := behind.TotalAlloc - ahead.TotalAlloc; got > 1<<22 {
			t.Errorf("Apply of a text that is never whole took %d bytes", got)
		}
	}
}

func BenchmarkApply(b *testing.B) {
	base := sample.Text(1 << 18)
	s := ""
	for i := 0; i < len(base); i += 64 {
		s += base[i:i+48] + "x"
	}
	d := delta.Make(base, s)
	b.SetBytes(int64(len(s)))
	for range b.N {
		if _, e := delta.Apply(base, d, len(s)); e != api.OK {
			b.Fatal(e)
		}
	}
}
