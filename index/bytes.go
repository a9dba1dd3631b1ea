package index

import (
	"strings"

	"pollard/api"
	"pollard/sum"
)

const (
	indexLine = "pollard index\n"

	numberBytes = 4
	packAt      = len(indexLine)
	countsAt    = packAt + api.IDBytes
	spotsAt     = countsAt + firstBytes*numberBytes
	spotBytes   = api.IDBytes + numberBytes
)

// Encode is an index' bytes.
func (x *Index) Encode() string {
	if x == nil {
		return ""
	}
	body := x.body()
	return body + sum.Of(body)
}

// body is an index' bytes ahead of their sum.
func (x *Index) body() string {
	b := make([]byte, 0, spotsAt+len(x.spots)*spotBytes)
	b = append(append(b, indexLine...), x.pack...)
	for _, n := range x.upTo {
		b = appendNumber(b, n)
	}
	for _, s := range x.spots {
		b = appendNumber(append(b, s.ID...), s.At)
	}
	return string(b)
}

// appendNumber adds a number's bytes, the highest first.
func appendNumber(b []byte, n int) []byte {
	for i := range numberBytes {
		b = append(b, byte(n>>(8*(numberBytes-1-i))))
	}
	return b
}

// Load is the index of bytes.
func Load(s string) (*Index, api.Errno) {
	if len(s) < spotsAt+api.IDBytes {
		return nil, api.ErrEnd
	}
	body := s[:len(s)-api.IDBytes]
	if sum.Of(body) != s[len(body):] {
		return nil, api.ErrSpoilt
	}
	spots := body[spotsAt:]
	if !strings.HasPrefix(body, indexLine) || len(spots)%spotBytes != 0 {
		return nil, api.ErrBad
	}
	if len(spots)/spotBytes > api.MostItems {
		return nil, api.ErrMuch
	}
	x, e := New(body[packAt:countsAt], readSpots(spots))
	// Spots that do not rise, and counts that are others, are told by the bytes that are made anew.
	if e != api.OK || x.body() != body {
		return nil, api.ErrBad
	}
	return x, api.OK
}

// readSpots is the spots of bytes, whatever their ids and places are.
func readSpots(s string) []api.Spot {
	l := make([]api.Spot, len(s)/spotBytes)
	for i := range l {
		one := s[i*spotBytes : (i+1)*spotBytes]
		l[i] = api.Spot{ID: one[:api.IDBytes], At: readNumber(one[api.IDBytes:])}
	}
	return l
}

// readNumber is the number of bytes, the highest first.
func readNumber(s string) int {
	n := 0
	for i := range len(s) {
		n = n<<8 | int(s[i])
	}
	return n
}
