package lz

import (
	"pollard/api"
	"pollard/code"
)

// Spread is the text of pressed bytes, if it has at most so many.
func Spread(p string, most int) (string, api.Errno) {
	s := spreader{rest: p}
	size, e := s.number(api.MostPlain)
	if e != api.OK {
		return "", e
	}
	if size > most {
		return "", api.ErrMuch
	}
	s.text = make([]byte, 0, size)
	for len(s.text) < size {
		if e := s.alone(size - len(s.text)); e != api.OK {
			return "", e
		}
		if len(s.text) == size {
			break
		}
		if e := s.again(size - len(s.text)); e != api.OK {
			return "", e
		}
	}
	if s.rest != "" {
		return "", api.ErrRest
	}
	return string(s.text), api.OK
}

// spreader is a text as far as it is spread, and the pressed bytes of the rest.
type spreader struct {
	text []byte
	rest string
}

// number reads a number of at most so much; most below 0 means that none may be.
func (s *spreader) number(most int) (int, api.Errno) {
	n, k, e := code.Unnum(s.rest)
	if e != api.OK {
		return 0, e
	}
	if most < 0 || n > uint64(most) {
		return 0, api.ErrBad
	}
	s.rest = s.rest[k:]
	return int(n), api.OK
}

// alone takes bytes that stand for themselves, where left are left of the text.
func (s *spreader) alone(left int) api.Errno {
	n, e := s.number(left)
	if e != api.OK {
		return e
	}
	if n > len(s.rest) {
		return api.ErrEnd
	}
	s.text = append(s.text, s.rest[:n]...)
	s.rest = s.rest[n:]
	return api.OK
}

// again takes a repetition, where left are left of the text.
func (s *spreader) again(left int) api.Errno {
	back, e := s.number(min(api.Far, len(s.text)))
	if e != api.OK {
		return e
	}
	if back == 0 {
		return api.ErrBad
	}
	more, e := s.number(left - api.LeastSame)
	if e != api.OK {
		return e
	}
	// One by one, since a repetition may run into itself.
	for range more + api.LeastSame {
		s.text = append(s.text, s.text[len(s.text)-back])
	}
	return api.OK
}
