package lz

import (
	"pollard/api"
	"pollard/code"
)

// Spread is the text of pressed bytes, if it has at most so many.
func Spread(p string, most int) (string, api.Errno) {
	s := spreader{rest: p}
	size, e := s.numberTo(api.MostPlain)
	if e != api.OK {
		return "", e
	}
	if size > most {
		return "", api.ErrMuch
	}
	s.text = make([]byte, 0, size)
	for len(s.text) < size {
		if e := s.alone(size - len(s.text)); e != api.OK {
			return "", e
		}
		if len(s.text) == size {
			break
		}
		if e := s.again(size - len(s.text)); e != api.OK {
			return "", e
		}
	}
	if s.rest != "" {
		return "", api.ErrRest
	}
	return string(s.text), api.OK
}

// spreader is a text as far as it is spread, and the pressed bytes of the rest.
type spreader struct {
	text []byte
	rest string
}

// number reads a number, whatever it tells of.
func (s *spreader) number() (uint64, api.Errno) {
	n, k, e := code.Unnum(s.rest)
	s.rest = s.rest[k:]
	return n, e
}

// numberTo reads a number of at most so much.
func (s *spreader) numberTo(most int) (int, api.Errno) {
	n, e := s.number()
	if e != api.OK {
		return 0, e
	}
	if n > uint64(most) {
		return 0, api.ErrBad
	}
	return int(n), api.OK
}

// alone takes bytes that stand for themselves, where left are left of the text.
func (s *spreader) alone(left int) api.Errno {
	n, e := s.numberTo(left)
	if e != api.OK {
		return e
	}
	if n > len(s.rest) {
		return api.ErrEnd
	}
	s.text = append(s.text, s.rest[:n]...)
	s.rest = s.rest[n:]
	return api.OK
}

// again takes a repetition, where left are left of the text.
func (s *spreader) again(left int) api.Errno {
	back, more, e := s.backAndMore()
	if e != api.OK {
		return e
	}
	if back == 0 || back > uint64(min(api.Far, len(s.text))) {
		return api.ErrBad
	}
	// Less may be left than the least repetition has.
	if left < api.LeastSame || more > uint64(left-api.LeastSame) {
		return api.ErrBad
	}
	// One by one, since a repetition may run into itself.
	for range more + api.LeastSame {
		s.text = append(s.text, s.text[len(s.text)-int(back)])
	}
	return api.OK
}

// backAndMore reads both numbers of a repetition, ahead of holding either against the text: that the second one can't be read comes ahead of what the first one tells.
func (s *spreader) backAndMore() (uint64, uint64, api.Errno) {
	back, e := s.number()
	if e != api.OK {
		return 0, 0, e
	}
	more, e := s.number()
	return back, more, e
}
