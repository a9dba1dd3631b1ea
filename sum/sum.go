// Package sum is layer 1: sums of bytes by SHA-256, and twins. See shared/doc/01-sum.md.
package sum

import (
	"pollard/api"
)

// State takes in bytes. The zero State has taken in nothing.
type State struct {
	words  [sumWords]uint32 // of the blocks that are full; unset while length is 0
	block  [blockBytes]byte // its first length % blockBytes bytes wait for more
	length uint64           // bytes taken in
}

// New is one that has taken in nothing.
func New() *State { return &State{} }

// Write takes in bytes.
func (s *State) Write(t string) {
	if s == nil {
		return
	}
	if s.length == 0 {
		s.words = firstWords()
	}
	for len(t) > 0 {
		n := copy(s.block[s.length%blockBytes:], t)
		t = t[n:]
		s.length += uint64(n)
		if s.length%blockBytes == 0 {
			s.words = mixed(s.words, s.block)
		}
	}
}

// Sum is the sum of all bytes so far.
func (s *State) Sum() string {
	if s == nil {
		return ""
	}
	last := *s // more may come behind: the padding goes into a copy
	last.Write(padding(s.length))
	return wordBytes(last.words)
}

// Of is the sum of bytes: SHA-256.
func Of(t string) string {
	s := New()
	s.Write(t)
	return s.Sum()
}

// Twin tells whether two texts are unlike, and have one sum.
func Twin(t api.Twins) bool {
	return t.One != t.Other && Of(t.One) == Of(t.Other)
}
