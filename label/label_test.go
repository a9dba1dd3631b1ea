package label_test

import (
	"slices"
	"strings"
	"testing"

	"pollard/api"
	"pollard/label"
	"pollard/sample"
)

// Promise 5.1, Name: ordinary ones, and what is barred alone but not with more.
func TestName(t *testing.T) {
	for _, s := range []string{"a", "A", "0", "a b", " ", "-", "_", "~", "\\", "*", "README.md", "ä", "日本", "😀", "\U0010ffff", "\ufffc", "\ufffe", "\ufeff", "\u2028", "e\u0301"} {
		wantName(t, s, true)
	}
	for _, s := range []string{"...", ".a", "..a", "a.", "a..", ". ", " .", ".. ", "....", ".\u0301", "．"} {
		wantName(t, s, true)
	}
	for _, s := range []string{"", ".", "..", "/", "a/b", "/a", "a/", "./", "../", "//"} {
		wantName(t, s, false)
	}
}

// Promise 5.1, Name: bytes count, not runes.
func TestNameLength(t *testing.T) {
	for _, s := range []string{"a", ".", "ä", "日", "😀"} {
		many := strings.Repeat(s, 64/len(s))
		many = strings.Repeat("x", 64-len(many)) + many
		if len(many) != api.MostLabel {
			t.Fatal(len(many))
		}
		wantName(t, many, true)
		wantName(t, "x"+many, false)
		wantName(t, many+"x", false)
		wantName(t, many[:63], s[len(s)-1] < 0x80) // the last rune is cut short, if it has several bytes
	}
	wantName(t, strings.Repeat("ä", 33), false)
	wantName(t, strings.Repeat("a", 1<<20), false)
}

// Promise 5.1, Name: each rune alone, ahead of others, behind and between them.
func TestNameRunes(t *testing.T) {
	for r := rune(0); r <= 0x10ffff; r++ {
		if 0xd800 <= r && r <= 0xdfff {
			continue // none, and Go would write fffd
		}
		want := r >= 32 && (r < 127 || r > 159) && r != '/' && r != 0xfffd
		s := string(r)
		wantName(t, s, want && s != ".")
		wantName(t, "a"+s, want)
		wantName(t, s+"a", want)
		wantName(t, "ä"+s+"ä", want)
	}
}

// Promise 5.1, Name: bytes that are no UTF-8, wherever they stand.
func TestNameStrays(t *testing.T) {
	for _, s := range strays() {
		for _, x := range []string{s, "a" + s, s + "a", "ä" + s + "ä", s + s, strings.Repeat("a", 64-len(s)) + s} {
			wantName(t, x, false)
		}
	}
}

// Promise 5.1, Split and Join: paths and their names.
func TestSplit(t *testing.T) {
	wantNames(t, "a", "a")
	wantNames(t, "a/b", "a", "b")
	wantNames(t, "a/a/a", "a", "a", "a")
	wantNames(t, "docs/ä b/..c/...", "docs", "ä b", "..c", "...")
	long := strings.Repeat("x", api.MostLabel)
	wantNames(t, long, long)
	wantNames(t, long+"/"+long, long, long)
	for _, p := range []string{"", "/", "//", "/a", "a/", "/a/b", "a/b/", "a//b", "a///b", ".", "..", "./a", "a/.", "a/../b", "a/\n/b", "a/\x7f", "\u0085/a", "a/\ufffd", long + "x", "a/" + long + "x/b"} {
		wantRefused(t, p, api.ErrLabel)
	}
	for _, s := range strays() {
		for _, p := range []string{s, s + "/a", "a/" + s, "a/b" + s + "/c"} {
			wantRefused(t, p, api.ErrLabel)
		}
	}
}

// Promise 5.1, Split: just MostDeep names and one more; that there are too many comes ahead of what they are.
func TestSplitDeep(t *testing.T) {
	long := strings.Repeat("ä", api.MostLabel/2)
	for _, s := range []string{"a", "b c", long} {
		for _, n := range []int{api.MostDeep - 1, api.MostDeep} {
			wantNames(t, parts(s, n), slices.Repeat([]string{s}, n)...)
		}
		wantRefused(t, parts(s, api.MostDeep+1), api.ErrMuch)
		wantRefused(t, parts(s, 5000), api.ErrMuch)
	}
	full, over := parts("a", api.MostDeep), parts("a", api.MostDeep+1)
	wantRefused(t, full[1:], api.ErrLabel)
	wantRefused(t, full[:len(full)-1], api.ErrLabel)
	for _, p := range []string{"/" + full, full + "/", "./" + full, full + "/..", full + "/\xff", full + "/" + long + "x", over + "\n", strings.Repeat("/", api.MostDeep), "\xff/" + over, over + "/\xe2\x82"} {
		wantRefused(t, p, api.ErrMuch)
	}
	wantRefused(t, strings.Repeat("/", api.MostDeep-1), api.ErrLabel)
	wantRefused(t, strings.Repeat("a", 1<<20), api.ErrLabel)
}

// Promise 5.1, Join: whatever the names are.
func TestJoin(t *testing.T) {
	wantPath(t, "")
	if got := label.Join(nil); got != "" {
		t.Errorf("%q", got)
	}
	wantPath(t, "a", "a")
	wantPath(t, "a/b/c", "a", "b", "c")
	wantPath(t, "", "")
	wantPath(t, "/", "", "")
	wantPath(t, "a/b/../\xff//c", "a/b", "..", "\xff", "", "c")
	wantPath(t, parts("a", 200), slices.Repeat([]string{"a"}, 200)...)
}

// Rule R2: what is handed in stays as it is, and the answers are the caller's own.
func TestOwn(t *testing.T) {
	l := []string{"a", "b"}
	label.Join(l)
	if !slices.Equal(l, []string{"a", "b"}) {
		t.Error(l)
	}
	first, _ := label.Split("a/b")
	first[0], first[1] = "x", "y"
	_ = append(first[:1], "z")
	wantNames(t, "a/b", "a", "b")
}

// Promise 5.1, Ref and Head: ordinary ones, and other words in front.
func TestRef(t *testing.T) {
	for _, own := range []string{"a", "z", "0", "9", "-", "_", "main", "v-1", "a_b-2", "--", "heads", "tags", "-x"} {
		wantRef(t, own, true)
		for _, front := range []string{"", "/", "head/", "heads", "heads-", "heads//", "Heads/", "HEADS/", "/heads/", " heads/", "aheads/", "heads/heads/", "tags/tags/", "heads/tags/", "tags/heads/", "tag/", "tags", "tags//", "Tags/", "/tags/", "xtags/", "refs/heads/", "refs/", "eads/", "heads\\"} {
			wantRefAndHead(t, front+own, false, false)
		}
	}
	wantRef(t, "", false)
	for _, own := range []string{"/", "a/", "/a", "a/b", ".", "..", "a.b", "A", "maiN", "Main", "a b", " a", "a ", "a\n", "ä", "aä", "٣", "ａ", "K", "\ufffd", "a\x00", "a+"} {
		wantRef(t, own, false)
	}
	for _, s := range strays() {
		wantRef(t, s, false)
		wantRef(t, "a"+s, false)
		wantRef(t, s+"a", false)
	}
	wantRefAndHead(t, "", false, false)
	wantRefAndHead(t, api.FirstHead, true, true)
}

// Promise 5.1, Ref and Head: MostLabel signs behind the folder, which does not count.
func TestRefLength(t *testing.T) {
	for _, s := range []string{"a", "z", "0", "-", "_"} {
		wantRef(t, strings.Repeat(s, api.MostLabel-1), true)
		wantRef(t, strings.Repeat(s, api.MostLabel), true)
		wantRef(t, strings.Repeat(s, api.MostLabel+1), false)
		wantRef(t, strings.Repeat(s, 1<<20), false)
	}
	wantRef(t, strings.Repeat("a", api.MostLabel-1)+"A", false)
}

// Promise 5.1, Ref and Head: each byte and each rune of two bytes, at each place.
func TestRefSigns(t *testing.T) {
	const signs = "abcdefghijklmnopqrstuvwxyz0123456789-_"
	for i := range 256 {
		s := string([]byte{byte(i)})
		want := strings.IndexByte(signs, byte(i)) >= 0
		for _, own := range []string{s, "a" + s, s + "a", "a" + s + "a"} {
			wantRef(t, own, want)
		}
	}
	for r := rune(0x80); r < 0x800; r++ {
		wantRef(t, string(r), false)
		wantRef(t, "a"+string(r), false)
	}
}

// Promise 5.1, Words, with the chapter's example: texts whose runes are written out.
func TestWords(t *testing.T) {
	wantWords(t, "", 0, 0)
	wantWords(t, "a\xffb", 2, 1)
	wantWords(t, "a", 1, 0)
	wantWords(t, "a b/\n\x00", 6, 0)
	wantWords(t, "ä日😀", 3, 0)
	wantWords(t, "e\u0301", 2, 0)
	wantWords(t, "\ufffd", 1, 0)
	wantWords(t, "\ufffd\ufffd", 2, 0)
	wantWords(t, "\ufffd\xff\ufffd", 2, 1)
	wantWords(t, "\xff\ufffd\xff", 1, 2)
	wantWords(t, "\xef\xbf", 0, 2) // the beginning of fffd
	wantWords(t, "\xef\xbf\xef\xbf\xbd", 1, 2)
	wantWords(t, "\xef\xbf\xbd\xbd", 1, 1)
	wantWords(t, "\xff\xfe\xfd", 0, 3)
	wantWords(t, "\xe2\x82a", 1, 2)
	wantWords(t, "\xe2a\x82", 1, 2)
	wantWords(t, "\xc0\x80", 0, 2)
	wantWords(t, "\xed\xa0\x80", 0, 3)
	wantWords(t, "\xf4\x90\x80\x80", 0, 4)
	wantWords(t, strings.Repeat("ä\xff\ufffd", 100000), 200000, 100000)
}

// Promise 5.1, Words: bytes that are none, alone, several, and between runes.
func TestWordsStrays(t *testing.T) {
	for _, s := range strays() {
		n := len(s)
		wantWords(t, s, 0, n)
		wantWords(t, s+s, 0, 2*n)
		wantWords(t, s+"a", 1, n)
		wantWords(t, "ä"+s+"日", 2, n)
		wantWords(t, "\ufffd"+s+"\ufffd"+s, 2, 2*n)
	}
}

// Promise 5.1, Name and Words: all texts of up to four bytes, of those at which something begins or ends, against what the chapter says.
func TestShortTexts(t *testing.T) {
	const edges = "\x00\x1f\x20./0a~\x7f\x80\x8f\x90\x9f\xa0\xbd\xbf\xc0\xc1\xc2\xdf\xe0\xe1\xec\xed\xee\xef\xf0\xf1\xf4\xf5\xff"
	var longer func(s string)
	longer = func(s string) {
		wantName(t, s, slowName(s))
		runes, bad := slowWords(s)
		wantWords(t, s, runes, bad)
		for i := 0; i < len(edges) && len(s) < 4; i++ {
			longer(s + edges[i:i+1])
		}
	}
	longer("")
}

// Promise 5.1, Name and Words: longer texts of any bytes, against what the chapter says.
func TestLongTexts(t *testing.T) {
	for n := range 3000 {
		s := sample.Text(n)
		runes, bad := slowWords(s)
		wantWords(t, s, runes, bad)
		clean := strings.ToValidUTF8(s[:min(n, 90)], "ä")
		for k := range len(clean) + 1 {
			wantName(t, clean[:k], slowName(clean[:k]))
		}
	}
}
