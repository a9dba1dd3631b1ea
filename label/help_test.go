package label_test

import (
	"slices"
	"strings"
	"testing"

	"pollard/api"
	"pollard/label"
)

// strays are bytes that are no UTF-8, by what is wrong with them. None of them has a byte that is a rune.
func strays() []string {
	return []string{
		"\x80", "\x85", "\x9f", "\xbf", // one that goes on, with nothing ahead
		"\xc0", "\xc1", "\xf5", "\xfe", "\xff", // one that stands in no rune
		"\xc2", "\xdf", "\xe0", "\xed", "\xef", "\xf0", "\xf4", // a rune of which one byte is there
		"\xc3", "\xe2\x82", "\xef\xbf", "\xf0\x9f", "\xf0\x9f\x98", "\xf4\x8f\xbf", // cut short
		"\xc0\xaf", "\xc1\xa1", "\xe0\x80\xaf", "\xe0\x9f\xbf", "\xf0\x80\x80\xaf", "\xf0\x8f\xbf\xbf", // told with too many bytes
		"\xed\xa0\x80", "\xed\xaf\xbf", "\xed\xb0\x80", "\xed\xbf\xbf", "\xed\xa0\xbd\xed\xb8\x80", // surrogates, alone and in a pair
		"\xf4\x90\x80\x80", "\xf7\xbf\xbf\xbf", // above the greatest
		"\xf8\x88\x80\x80\x80", "\xfc\x84\x80\x80\x80\x80", // five bytes, and six
	}
}

// slowRune reads the rune at the beginning of a text that is not empty: by its bits, held against the least that needs so many bytes. It answers 1 and false for a byte that is none.
func slowRune(s string) (r rune, n int, ok bool) {
	lengths := []struct {
		mask, lead byte
		least      rune
	}{{0x80, 0x00, 0}, {0xe0, 0xc0, 0x80}, {0xf0, 0xe0, 0x800}, {0xf8, 0xf0, 0x10000}}
	for i, l := range lengths {
		n := i + 1
		if s[0]&l.mask != l.lead || len(s) < n {
			continue
		}
		r := rune(s[0] &^ l.mask)
		for _, c := range []byte(s[1:n]) {
			if c&0xc0 != 0x80 {
				return 0, 1, false
			}
			r = r<<6 | rune(c&0x3f)
		}
		if r < l.least || r > 0x10ffff || 0xd800 <= r && r <= 0xdfff {
			return 0, 1, false
		}
		return r, n, true
	}
	return 0, 1, false
}

// slowWords counts by slowRune.
func slowWords(s string) (runes, bad int) {
	for s != "" {
		_, n, ok := slowRune(s)
		if ok {
			runes++
		} else {
			bad++
		}
		s = s[n:]
	}
	return runes, bad
}

// slowName follows the chapter's words one by one.
func slowName(s string) bool {
	if len(s) < 1 || len(s) > 64 || s == "." || s == ".." {
		return false
	}
	for s != "" {
		r, n, ok := slowRune(s)
		if !ok || r == '/' || r == 0xfffd || r < 32 || r >= 127 && r <= 159 {
			return false
		}
		s = s[n:]
	}
	return true
}

func wantName(t *testing.T, s string, want bool) {
	t.Helper()
	if got := label.Name(s); got != want {
		t.Errorf("Name(%.80q): %t", s, got)
	}
}

// wantNames wants a path to have these names, and these to be that path.
func wantNames(t *testing.T, p string, want ...string) {
	t.Helper()
	got, e := label.Split(p)
	if e != api.OK || !slices.Equal(got, want) {
		t.Errorf("Split(%.80q): %.80q, %d; wanted %.80q", p, got, e, want)
	}
	wantPath(t, p, want...)
}

// wantRefused wants this error, and no names beside it.
func wantRefused(t *testing.T, p string, want api.Errno) {
	t.Helper()
	if got, e := label.Split(p); e != want || len(got) != 0 {
		t.Errorf("Split(%.80q): %.80q, %d; wanted %d", p, got, e, want)
	}
}

func wantPath(t *testing.T, want string, l ...string) {
	t.Helper()
	if got := label.Join(l); got != want {
		t.Errorf("Join(%.80q): %.80q; wanted %.80q", l, got, want)
	}
}

// wantRef wants what stands behind heads/ to be a branch's name and a ref's, or neither; behind tags/ it is never a branch's.
func wantRef(t *testing.T, own string, want bool) {
	t.Helper()
	for _, folder := range []string{"heads/", "tags/"} {
		wantRefAndHead(t, folder+own, want, want && folder == "heads/")
	}
}

func wantRefAndHead(t *testing.T, s string, ref, head bool) {
	t.Helper()
	if got := label.Ref(s); got != ref {
		t.Errorf("Ref(%.80q): %t", s, got)
	}
	if got := label.Head(s); got != head {
		t.Errorf("Head(%.80q): %t", s, got)
	}
}

func wantWords(t *testing.T, s string, runes, bad int) {
	t.Helper()
	if n, b := label.Words(s); n != runes || b != bad {
		t.Errorf("Words(%.80q): %d, %d; wanted %d, %d", s, n, b, runes, bad)
	}
}

// parts is a text n times, with a / between each two.
func parts(s string, n int) string {
	return strings.TrimSuffix(strings.Repeat(s+"/", n), "/")
}
