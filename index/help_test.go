package index_test

import (
	"crypto/sha256"
	"encoding/binary"
	"fmt"
	"math/rand"
	"slices"
	"strings"
	"testing"

	"pollard/api"
	"pollard/index"
)

const (
	indexLine = "pollard index\n"

	// bytesOfNone is how many bytes the index of no spots has: the line, the pack's sum, 256 numbers, the sum.
	bytesOfNone = 14 + 32 + 256*4 + 32

	mostInt  = 1<<63 - 1
	leastInt = -1 << 63
)

// sumOf is the sum by the library.
func sumOf(s string) string {
	b := sha256.Sum256([]byte(s))
	return string(b[:])
}

// sealed is bytes with the right sum behind them.
func sealed(body string) string { return body + sumOf(body) }

// bodyOf is bytes without the sum at their end.
func bodyOf(s string) string { return s[:len(s)-32] }

// idOf is an id of one byte, again and again.
func idOf(c byte) string { return strings.Repeat(string([]byte{c}), api.IDBytes) }

// idFrom is an id that begins with these bytes; noughts stand behind them.
func idFrom(first ...byte) string {
	return string(first) + strings.Repeat("\x00", api.IDBytes-len(first))
}

// packSum is the sum of no pack that there is.
func packSum() string { return sumOf("a pack") }

// noIDs are texts that have not 32 bytes.
func noIDs() []string {
	return []string{"", "i", idOf('i')[:16], idOf('i')[:31], idOf('i') + "i", idOf('i') + idOf('i'), strings.Repeat("i", 1<<16)}
}

// number is a number's four bytes.
func number(n int) string { return string(binary.BigEndian.AppendUint32(nil, uint32(n))) }

// counts is how many of these ids begin with each byte or a lesser one, counted for each byte anew.
func counts(l []api.Spot) [256]int {
	var out [256]int
	for b := range out {
		for _, x := range l {
			if int(x.ID[0]) <= b {
				out[b]++
			}
		}
	}
	return out
}

// told is an index' bytes ahead of their sum, of spots and numbers as they are handed in.
func told(pack string, numbers [256]int, l []api.Spot) string {
	var out strings.Builder
	out.WriteString(indexLine + pack)
	for _, n := range numbers {
		out.WriteString(number(n))
	}
	for _, x := range l {
		out.WriteString(x.ID + number(x.At))
	}
	return out.String()
}

// rising is spots by their ids.
func rising(l []api.Spot) []api.Spot {
	l = slices.Clone(l)
	slices.SortFunc(l, func(a, b api.Spot) int { return strings.Compare(a.ID, b.ID) })
	return l
}

// bytesOf is the bytes of an index by the section Words.
func bytesOf(pack string, l []api.Spot) string {
	return sealed(told(pack, counts(l), rising(l)))
}

// manySpots is n spots whose ids are sums, as objects' ids are.
func manySpots(n int) []api.Spot {
	l := make([]api.Spot, n)
	for i := range l {
		l[i] = api.Spot{ID: sumOf(fmt.Sprint(i)), At: i * 7919 % (api.MostPack + 1)}
	}
	return l
}

// alikeSpots is n spots whose ids have the same first bytes, and differ in the last two.
func alikeSpots(first byte, n int) []api.Spot {
	l := make([]api.Spot, n)
	for i := range l {
		l[i] = api.Spot{ID: idOf(first)[:30] + string([]byte{byte(i >> 8), byte(i)}), At: i}
	}
	return l
}

// someLists are lists of spots of many kinds, by what they are.
func someLists() map[string][]api.Spot {
	every := []api.Spot{}
	for c := range 256 {
		every = append(every, api.Spot{ID: idOf(byte(c)), At: 3 * c})
	}
	return map[string][]api.Spot{
		"none":                nil,
		"one":                 {{ID: idOf('a'), At: 27}},
		"one of noughts":      {{ID: idOf(0)}},
		"one of the greatest": {{ID: idOf(255), At: api.MostPack}},
		"both ends":           {{ID: idOf(255), At: 1}, {ID: idOf(0), At: 2}},
		"around 127":          {{ID: idOf(128), At: 5}, {ID: idOf(127), At: 4}, {ID: idOf(129), At: 3}},
		"one place":           {{ID: idOf('b'), At: 9}, {ID: idOf('a'), At: 9}, {ID: idOf('c'), At: 9}},
		"places":              {{ID: idOf(1), At: 255}, {ID: idOf(2), At: 256}, {ID: idOf(3), At: 65535}, {ID: idOf(4), At: 65536}, {ID: idOf(5), At: 0x123456}, {ID: idOf(6), At: api.MostPack - 1}},
		"every first byte":    every,
		"many":                manySpots(700),
		"alike, of noughts":   alikeSpots(0, 300),
		"alike":               alikeSpots('m', 300),
		"alike, of 255":       alikeSpots(255, 300),
		"alike, and others":   append(alikeSpots('m', 300), every[:'m']...),
		"the last byte":       {{ID: idFrom(7), At: 1}, {ID: idFrom(7)[:31] + "\x01", At: 2}, {ID: idFrom(7)[:31] + "\xff", At: 3}, {ID: idFrom(7, 1), At: 4}},
		"the most":            manySpots(api.MostItems),
		"the most, alike":     alikeSpots('z', api.MostItems),
	}
}

// shuffled is the same spots in another order, the same at each call.
func shuffled(l []api.Spot, seed int64) []api.Spot {
	l = slices.Clone(l)
	rand.New(rand.NewSource(seed)).Shuffle(len(l), func(i, k int) { l[i], l[k] = l[k], l[i] })
	return l
}

// slowLoad loads by the chapter's words: it answers the pack's sum and the spots.
func slowLoad(s string) (string, []api.Spot, api.Errno) {
	switch {
	case len(s) < bytesOfNone:
		return "", nil, api.ErrEnd
	case !strings.HasSuffix(s, sumOf(bodyOf(s))):
		return "", nil, api.ErrSpoilt
	case !strings.HasPrefix(s, indexLine), (len(s)-bytesOfNone)%36 != 0:
		return "", nil, api.ErrBad
	case (len(s)-bytesOfNone)/36 > 2048:
		return "", nil, api.ErrMuch
	}
	pack := s[14:46]
	var l []api.Spot
	for rest := bodyOf(s)[bytesOfNone-32:]; rest != ""; rest = rest[36:] {
		x := api.Spot{ID: rest[:32], At: int(binary.BigEndian.Uint32([]byte(rest[32:36])))}
		if x.At > 1<<22 || len(l) > 0 && x.ID <= l[len(l)-1].ID {
			return "", nil, api.ErrBad
		}
		l = append(l, x)
	}
	if bytesOf(pack, l) != s {
		return "", nil, api.ErrBad
	}
	return pack, l, api.OK
}

// newIndex is an index that may be.
func newIndex(t *testing.T, pack string, l []api.Spot) *index.Index {
	t.Helper()
	x, e := index.New(pack, l)
	if e != api.OK || x == nil {
		t.Fatalf("New of %d spots %s: %d", len(l), show(l), e)
	}
	return x
}

// show is the first few spots, as a fault is told of them.
func show(l []api.Spot) string {
	out := ""
	for _, x := range l[:min(len(l), 5)] {
		out += fmt.Sprintf("{%.70q, %d}", x.ID, x.At)
	}
	return out
}

// wantIndex wants all that an index of these spots answers.
func wantIndex(t *testing.T, what string, x *index.Index, pack string, l []api.Spot) {
	t.Helper()
	if got := x.Pack(); got != pack {
		t.Errorf("%s: Pack: %x, wanted %x", what, got, pack)
	}
	if got, want := x.All(), rising(l); !slices.Equal(got, want) {
		t.Errorf("%s: All: %d spots %s; wanted %d, %s", what, len(got), show(got), len(want), show(want))
	}
	for _, s := range l {
		if at, is := x.Find(s.ID); !is || at != s.At {
			t.Errorf("%s: Find(%x): %d, %v; wanted %d", what, s.ID, at, is, s.At)
		}
	}
	if got, want := x.Encode(), bytesOf(pack, l); got != want {
		t.Errorf("%s: Encode: %d bytes %.60q; wanted %d", what, len(got), got, len(want))
	}
}

// wantNoNew wants this error, and no index beside it.
func wantNoNew(t *testing.T, want api.Errno, pack string, l ...api.Spot) {
	t.Helper()
	if x, e := index.New(pack, l); e != want || x != nil {
		t.Errorf("New(%.40q, %d spots %.300s): %v, %d; wanted %d", pack, len(l), show(l), x != nil, e, want)
	}
}

// wantNoLoad wants this error, and no index beside it.
func wantNoLoad(t *testing.T, what, s string, want api.Errno) {
	t.Helper()
	if x, e := index.Load(s); e != want || x != nil {
		t.Errorf("%s: Load of %d bytes: %v, %d; wanted %d", what, len(s), x != nil, e, want)
	}
}

// wantNone wants that a text is not found.
func wantNone(t *testing.T, what string, x *index.Index, id string) {
	t.Helper()
	if at, is := x.Find(id); is || at != 0 {
		t.Errorf("%s: Find(%.40q): %d, %v", what, id, at, is)
	}
}
