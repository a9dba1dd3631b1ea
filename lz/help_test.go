package lz_test

import (
	"testing"

	"pollard/api"
	"pollard/code"
	"pollard/lz"
)

// told is pressed bytes: each number in its form, each text as it is.
func told(parts ...any) string {
	out := ""
	for _, p := range parts {
		switch p := p.(type) {
		case int:
			out += code.Num(uint64(p))
		case uint64:
			out += code.Num(p)
		case string:
			out += p
		}
	}
	return out
}

// fresh is n bytes in which no four come again: a number in three bytes of seven bits, of which the first one is marked, and so on.
func fresh(n int) string {
	b := make([]byte, 0, n+3)
	for k := 0; len(b) < n; k++ {
		b = append(b, byte(128|k>>14&127), byte(k>>7&127), byte(k&127))
	}
	return string(b[:n])
}

// slowPress presses by the chapter's words: it looks at each place ahead, from the last one on.
func slowPress(s string) string {
	out, alone := told(len(s)), ""
	for i := 0; i < len(s); {
		back := slowBack(s, i)
		if back == 0 || back > api.Far {
			alone += s[i : i+1]
			i++
			continue
		}
		n := 0
		for i+n < len(s) && s[i+n] == s[i+n-back] {
			n++
		}
		out += told(len(alone), alone, back, n-api.LeastSame)
		alone = ""
		i += n
	}
	if alone != "" {
		out += told(len(alone), alone)
	}
	return out
}

// slowBack is how far the last place ahead is at which the same four bytes stand as at i; 0, if there is none.
func slowBack(s string, i int) int {
	if len(s)-i < 4 {
		return 0
	}
	for j := i - 1; j >= 0; j-- {
		if s[j:j+4] == s[i:i+4] {
			return i - j
		}
	}
	return 0
}

// slowSpread spreads by the chapter's words, each step of which is here beside what may be wrong with it; how far a repetition goes back is asked when both its numbers are read.
func slowSpread(p string, most int) (string, api.Errno) {
	text, size, step := "", uint64(0), 0
	back := uint64(0)
	for step == 0 || uint64(len(text)) < size {
		n, k, e := code.Unnum(p)
		if e != api.OK {
			return "", e
		}
		p = p[k:]
		left := size - uint64(len(text))
		switch {
		case step == 0 && n > api.MostPlain:
			return "", api.ErrBad
		case step == 0 && (most < 0 || n > uint64(most)):
			return "", api.ErrMuch
		case step == 0:
			size = n
		case step%3 == 1 && n > left:
			return "", api.ErrBad
		case step%3 == 1 && n > uint64(len(p)):
			return "", api.ErrEnd
		case step%3 == 1:
			text += p[:n]
			p = p[n:]
		case step%3 == 2:
			back = n
		case back == 0 || back > api.Far || back > uint64(len(text)):
			return "", api.ErrBad
		case n > left || n+4 > left:
			return "", api.ErrBad
		default:
			for range n + 4 {
				text += text[uint64(len(text))-back:][:1]
			}
		}
		step++
	}
	if p != "" {
		return "", api.ErrRest
	}
	return text, api.OK
}

// wantPress wants these pressed bytes, and the text of them again.
func wantPress(t *testing.T, s, want string) {
	t.Helper()
	got, e := lz.Press(s)
	if e != api.OK || got != want {
		t.Errorf("Press(%.60q): %.60x, %d; wanted %.60x", s, got, e, want)
	}
	wantSpread(t, want, len(s), s, api.OK)
}

func wantSpread(t *testing.T, p string, most int, want string, wantErr api.Errno) {
	t.Helper()
	if got, e := lz.Spread(p, most); got != want || e != wantErr {
		t.Errorf("Spread(%.60x, %d): %.60q, %d; wanted %.60q, %d", p, most, got, e, want, wantErr)
	}
}

// wantError wants this error, and no text beside it.
func wantError(t *testing.T, p string, most int, want api.Errno) {
	t.Helper()
	wantSpread(t, p, most, "", want)
}
