package delta_test

import (
	"strings"
	"testing"

	"pollard/api"
	"pollard/code"
	"pollard/delta"
)

// great is the greatest number that is read: nine bytes.
const great = uint64(9295997013522923647)

// told is a delta's bytes: each number in its form, each text as it is.
func told(parts ...any) string {
	out := ""
	for _, p := range parts {
		switch p := p.(type) {
		case int:
			out += code.Num(uint64(p))
		case uint64:
			out += code.Num(p)
		case string:
			out += p
		}
	}
	return out
}

// put is the step that puts a text.
func put(s string) string { return told(2*(len(s)-1), s) }

// taken is the step that takes n bytes of the base from a place on.
func taken(place, n int) string { return told(2*(n-1)+1, place) }

// fresh is n bytes, at most 48000, of which no sixteen come again in it: a number in three bytes, and so on.
func fresh(n int) string {
	b := make([]byte, 0, n+3)
	for k := 0; len(b) < n; k++ {
		b = append(b, byte(k>>8), byte(k), '.')
	}
	return string(b[:n])
}

// slowMake makes a delta by the chapter's words: at each place of the text it looks at the base's blocks, from the first one on.
func slowMake(base, s string) string {
	out, between := told(len(base), len(s)), ""
	flush := func() {
		if between != "" {
			out += put(between)
		}
		between = ""
	}
	for i := 0; i < len(s); {
		place := slowPlace(base, s[i:])
		if place < 0 {
			between += s[i : i+1]
			i++
			continue
		}
		n := 0
		for i+n < len(s) && place+n < len(base) && s[i+n] == base[place+n] {
			n++
		}
		flush()
		out += taken(place, n)
		i += n
	}
	flush()
	return out
}

// slowPlace is where the base's first block stands with which s begins; -1, if there is none.
func slowPlace(base, s string) int {
	for k := 0; k+16 <= len(base); k += 16 {
		if strings.HasPrefix(s, base[k:k+16]) {
			return k
		}
	}
	return -1
}

// slowApply applies by the chapter's words, number by number, byte by byte; what numbers tell is asked when all of the head, or of a step, are read.
func slowApply(base, d string, most int) (string, api.Errno) {
	text, from, size, step := "", uint64(0), uint64(0), uint64(0)
	const (
		atBase = iota
		atSize
		atStep
		atPlace
	)
	for at := atBase; at < atStep || at == atPlace || uint64(len(text)) < size; {
		n, k, e := code.Unnum(d)
		if e != api.OK {
			return "", e
		}
		d = d[k:]
		left := size - uint64(len(text))
		switch {
		case at == atBase:
			at, from = atSize, n
		case at == atSize && from != uint64(len(base)):
			return "", api.ErrBad
		case at == atSize && (most < 0 || n > uint64(most)):
			return "", api.ErrMuch
		case at == atSize:
			at, size = atStep, n
		case at == atStep && n%2 == 1:
			at, step = atPlace, n/2+1
		case at == atStep && n/2+1 > left || at == atPlace && step > left:
			return "", api.ErrBad
		case at == atStep && n/2+1 > uint64(len(d)):
			return "", api.ErrEnd
		case at == atStep:
			text += d[:n/2+1]
			d = d[n/2+1:]
		case at == atPlace:
			for range step {
				if n >= uint64(len(base)) {
					return "", api.ErrBad
				}
				text += base[n : n+1]
				n++
			}
			at = atStep
		}
	}
	if d != "" {
		return "", api.ErrRest
	}
	return text, api.OK
}

// wantMake wants this delta, and the text of it again.
func wantMake(t *testing.T, base, s, want string) {
	t.Helper()
	if got := delta.Make(base, s); got != want {
		t.Errorf("Make(%.60q, %.60q): %.80q; wanted %.80q", base, s, got, want)
	}
	wantApply(t, base, want, len(s), s)
}

func wantApply(t *testing.T, base, d string, most int, want string) {
	t.Helper()
	if got, e := delta.Apply(base, d, most); got != want || e != api.OK {
		t.Errorf("Apply(%.60q, %.60q, %d): %.60q, %d; wanted %.60q", base, d, most, got, e, want)
	}
}

// wantError wants this error, and no text beside it.
func wantError(t *testing.T, base, d string, most int, want api.Errno) {
	t.Helper()
	if got, e := delta.Apply(base, d, most); got != "" || e != want {
		t.Errorf("Apply(%.60q, %.60q, %d): %.60q, %d; wanted %d", base, d, most, got, e, want)
	}
}

// holdApply holds Apply against the slow one, with several bounds.
func holdApply(t *testing.T, base, d string) {
	t.Helper()
	for _, most := range []int{-1, 0, 5, 24, 1000} {
		want, wantErr := slowApply(base, d, most)
		if got, e := delta.Apply(base, d, most); got != want || e != wantErr {
			t.Errorf("Apply(%.60q, %.60q, %d): %.60q, %d; wanted %.60q, %d", base, d, most, got, e, want, wantErr)
		}
	}
}

// unnums are bytes at which no number can be read, each with Unnum's error.
func unnums() map[string]api.Errno {
	bad := map[string]api.Errno{}
	for _, c := range []string{"\x80", "\xff"} {
		for n := range 9 {
			bad[strings.Repeat(c, n)] = api.ErrEnd
		}
		for _, n := range []int{9, 10, 30} {
			bad[strings.Repeat(c, n)] = api.ErrBad
		}
		bad[strings.Repeat(c, 9)+"\x00"] = api.ErrBad
	}
	return bad
}
