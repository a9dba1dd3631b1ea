package object_test

import (
	"encoding/hex"
	"fmt"
	"strings"
	"testing"

	"pollard/api"
	"pollard/object"
	"pollard/sample"
)

// someBodies are bodies of any form.
func someBodies() []string {
	return []string{"", "a", "ab", " ", "\x00", "\x00\x00", "a b\x00c", "blob 0\x00", " 0\x00", "\xff\xfe", "\n", "ä😀", strings.Repeat("\x00", 1000), sample.Text(9), sample.Text(10), sample.Text(99), sample.Text(100), sample.Text(70000)}
}

// Promise 7.1, Raw, ID and Open: bytes that are written out, with the chapter's example, whose sum is known.
func TestRawKnown(t *testing.T) {
	for _, c := range []struct {
		kind      int
		body, raw string
	}{
		{api.KindBlob, "", "blob 0\x00"}, {api.KindBlob, "ab", "blob 2\x00ab"}, {api.KindBlob, "a\x00 \xff", "blob 4\x00a\x00 \xff"},
		{api.KindTree, "", "tree 0\x00"}, {api.KindTree, "x", "tree 1\x00x"},
		{api.KindCommit, "", "commit 0\x00"}, {api.KindCommit, "0123456789", "commit 10\x000123456789"},
		{api.KindTag, "", "tag 0\x00"}, {api.KindTag, "\n", "tag 1\x00\n"},
	} {
		if raw, e := object.Raw(c.kind, c.body); raw != c.raw || e != api.OK {
			t.Errorf("Raw(%d, %q): %q, %d; wanted %q", c.kind, c.body, raw, e, c.raw)
		}
		wantOpen(t, c.raw, c.kind, c.body)
	}
	if got := hex.EncodeToString([]byte(object.ID("blob 0\x00"))); got != "473a0f4c3be8a93681a267e3b1e9a7dcda1185436fe141f7749120a303721813" {
		t.Error(got)
	}
}

// Promise 7.1: each kind with bodies of any form; Open gives back what Raw was given.
func TestRaw(t *testing.T) {
	for kind, word := range someKinds() {
		for _, body := range someBodies() {
			raw, e := object.Raw(kind, body)
			if raw != rawOf(word, body) || e != api.OK {
				t.Errorf("Raw(%d, %.40q): %.40q, %d", kind, body, raw, e)
			}
			wantOpen(t, raw, kind, body)
		}
	}
}

// Promise 7.1: just MostBody bytes, and one more; that the kind is none comes first.
func TestRawMost(t *testing.T) {
	most := sample.Text(api.MostBody)
	for kind, word := range someKinds() {
		raw, e := object.Raw(kind, most)
		if raw != word+" 262144\x00"+most || e != api.OK {
			t.Errorf("Raw(%d): %.40q, %d", kind, raw, e)
		}
		wantOpen(t, raw, kind, most)
		for _, more := range []string{most + "a", most + "\x00", most + most} {
			if raw, e := object.Raw(kind, more); raw != "" || e != api.ErrMuch {
				t.Errorf("Raw(%d): %.40q, %d", kind, raw, e)
			}
			wantShut(t, rawOf(word, more), api.ErrMuch)
		}
	}
	for _, kind := range noKinds() {
		for _, body := range []string{"", "a", most, most + "a"} {
			if raw, e := object.Raw(kind, body); raw != "" || e != api.ErrKind {
				t.Errorf("Raw(%d): %.40q, %d", kind, raw, e)
			}
		}
	}
}

// Promise 7.1, ID: the sum of any bytes.
func TestID(t *testing.T) {
	texts := append(someBodies(), sample.Text(api.MostBody+100))
	for _, word := range []string{"blob", "commit", "what"} {
		for _, s := range someBodies() {
			texts = append(texts, rawOf(word, s))
		}
	}
	for _, s := range texts {
		if id := object.ID(s); id != sumOf(s) {
			t.Errorf("ID(%.40q): %x", s, id)
		}
	}
}

// Promise 7.1, Open: no nought; no space ahead of the first one, be there one behind it.
func TestOpenHead(t *testing.T) {
	for _, raw := range []string{
		"", "b", "blob", " ", "blob ", "blob 0", "blob 2ab", "blob 2 ab", "blob 0\n", "blob 0\x01", "what", "what 0", strings.Repeat("blob 0 ", 1000),
		"\x00", "\x00\x00", "blob\x00", "blob0\x00", "0\x00", "blob\t0\x00", "blob\u00a00\x00", "blob\x000\x00", "what\x00", "what0\x00",
		"\x00 ", "\x00 0\x00", "\x00blob 0\x00", "blob\x00 ", "blob\x00 0", "blob\x00 0\x00", "blob\x00blob 0\x00", "2\x00 b", "what\x00 0\x00",
	} {
		wantShut(t, raw, api.ErrBad)
	}
}

// Promise 7.1, Open: words that are of no kind, whatever the length is.
func TestOpenKind(t *testing.T) {
	for _, word := range noKindWords() {
		for _, told := range []string{"0", "2", "", "02", "+2", "x", "2 ", " ", "1000000", "18446744073709551616"} {
			for _, body := range []string{"", "a", "ab", "abc", "\x00 "} {
				wantShut(t, word+" "+told+"\x00"+body, api.ErrKind)
			}
		}
	}
}

// Promise 7.1, Open: lengths that are no number in its only form, or more than may be, whatever the body is.
func TestOpenLength(t *testing.T) {
	for _, word := range someKinds() {
		for _, body := range []string{"", "a", "ab", "abc", "\x00 ", sample.Text(300)} {
			for _, told := range []string{"", "00", "02", "002", "+2", "-2", "-0", "+0", " 2", "2 ", "2 2", " ", "  ", "2\n", "\n", "0x2", "2.0", "2e0", "a", "2a", "٢", "\xff", "1_0", "-1", "18446744073709551616", "18446744073709551618", "36893488147419103234", strings.Repeat("9", 1000)} {
				wantShut(t, word+" "+told+"\x00"+body, api.ErrBad)
			}
			for _, told := range []string{"262145", "262146", "1000000", "2147483648", "4294967296", "4294967298", "9223372036854775807", "9223372036854775808", "18446744073709551615", "18446744073709551614"} {
				wantShut(t, word+" "+told+"\x00"+body, api.ErrMuch)
			}
		}
	}
}

// Promise 7.1, Open: bodies that are shorter, and longer, than is told.
func TestOpenBody(t *testing.T) {
	most := sample.Text(api.MostBody)
	for _, word := range someKinds() {
		for _, body := range someBodies() {
			wantShut(t, fmt.Sprintf("%s %d\x00%s", word, len(body)+1, body), api.ErrEnd)
			wantShut(t, word+" 262144\x00"+body, api.ErrEnd)
			for _, behind := range []string{"\x00", "a", " ", "\n", "blob 0\x00"} {
				wantShut(t, rawOf(word, body)+behind, api.ErrRest)
			}
		}
		wantShut(t, rawOf(word, most)[:len(word)+8+len(most)-1], api.ErrEnd)
		wantShut(t, rawOf(word, most)+"a", api.ErrRest)
		wantShut(t, word+" 0\x00"+most, api.ErrRest)
	}
}

// Promise 7.1, Open: bytes of objects of which one is another one, or is gone, or is there twice, against what the chapter says. What is open is made again.
func TestOpenSpoilt(t *testing.T) {
	for _, s := range []string{"blob 0\x00", "tree 2\x00ab", "commit 12\x00a \x00commit 1\x00", "tag 20\x00" + sample.Text(20), "blob 100\x00" + sample.Text(100), "blob 262144\x00", "blob 262145\x00a"} {
		for raw := range spoilt(s) {
			kind, body, e := slowOpen(raw)
			if e != api.OK {
				if k, b, f := object.Open(raw); k != 0 || b != "" || f != e {
					t.Errorf("Open(%q): %d, %q, %d; wanted %d", raw, k, b, f, e)
				}
				continue
			}
			wantOpen(t, raw, kind, body)
			if again, e := object.Raw(kind, body); again != raw || e != api.OK {
				t.Errorf("Raw(%d, %q): %q, %d; wanted %q", kind, body, again, e, raw)
			}
		}
	}
}

// Promise 7.4: objects of unlike kinds or bodies have unlike ids, also where one's body is another one's bytes.
func TestUnlikeIDs(t *testing.T) {
	bodies := append(someBodies(), "blob 1\x00a", "tree 1\x00a", "0", "1\x00", "lob 0\x00", " 1\x00a", strings.Repeat("\x00", 999), strings.Repeat("\x00", 1001))
	for n := range 2000 {
		bodies = append(bodies, fmt.Sprint(n), fmt.Sprint(n, "\x00"))
	}
	type from struct {
		kind int
		body string
	}
	known := map[string]from{}
	for kind := 1; kind <= 4; kind++ {
		for _, body := range bodies {
			raw, _ := object.Raw(kind, body)
			id, own := object.ID(raw), from{kind, body}
			if len(id) != api.IDBytes {
				t.Fatalf("ID(%.40q): %x", raw, id)
			}
			if other, is := known[id]; is && other != own {
				t.Errorf("%.40q and %.40q have one id", own.body, other.body)
			}
			known[id] = own
		}
	}
}
