package pack

import (
	"strings"

	"pollard/api"
	"pollard/code"
	"pollard/lz"
)

// mostData is how many bytes all Data of a pack may have together: few pressed bytes may tell of very many.
const mostData = 4 * api.MostPack

// Scan is the items of a pack.
func Scan(p string) ([]api.Item, api.Errno) {
	if _, e := Sum(p); e != api.OK {
		return nil, e
	}
	body := bodyOf(p)
	if !strings.HasPrefix(body, packLine) {
		return nil, api.ErrBad
	}
	n, k, e := code.Unnum(body[len(packLine):])
	if e != api.OK {
		return nil, e
	}
	if n > api.MostItems {
		return nil, api.ErrMuch
	}
	return readItems(body, len(packLine)+k, int(n))
}

// readItems is n items, of which the first one stands at a place, and the last one ends the body.
func readItems(body string, at, n int) ([]api.Item, api.Errno) {
	var l []api.Item
	left := mostData
	for range n {
		x, end, e := readItem(body, at)
		if e != api.OK {
			return nil, e
		}
		// Asked at each item, so that no more than may be is ever held.
		if len(x.Data) > left {
			return nil, api.ErrMuch
		}
		left -= len(x.Data)
		l = append(l, x)
		at = end
	}
	if at < len(body) {
		return nil, api.ErrRest
	}
	return l, api.OK
}

// One is the item that stands at a place in a pack.
func One(p string, at int) (api.Item, api.Errno) {
	if at < 0 || at >= len(p)-api.IDBytes {
		return api.Item{}, api.ErrAsk
	}
	x, _, e := readItem(bodyOf(p), at)
	return x, e
}

// readItem is the item at a place, and where it ends.
func readItem(body string, at int) (api.Item, int, api.Errno) {
	base, size, e := readBase(body[at:])
	if e != api.OK {
		return api.Item{}, 0, e
	}
	begin := at + size
	n, k, e := code.Unnum(body[begin:])
	if e != api.OK {
		return api.Item{}, 0, e
	}
	begin += k
	if n > uint64(len(body)-begin) {
		return api.Item{}, 0, api.ErrEnd
	}
	end := begin + int(n)
	data, e := lz.Spread(body[begin:end], api.MostPlain)
	if e != api.OK {
		return api.Item{}, 0, e
	}
	return api.Item{Base: strings.Clone(base), Data: data, At: at}, end, api.OK
}

// readBase is the base of the item with which bytes begin, and how many bytes tell it.
func readBase(s string) (string, int, api.Errno) {
	if s == "" {
		return "", 0, api.ErrEnd
	}
	switch s[0] {
	case wholeSign:
		return "", 1, api.OK
	case madeSign:
		const size = 1 + api.IDBytes
		if len(s) < size {
			return "", 0, api.ErrEnd
		}
		return s[1:size], size, api.OK
	}
	return "", 0, api.ErrBad
}
