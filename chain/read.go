package chain

import (
	"pollard/api"
	"pollard/delta"
	"pollard/index"
	"pollard/object"
	"pollard/pack"
)

// Read is one object of a pack, by its index.
func Read(p string, x *index.Index, id string) (string, api.Errno) {
	row, e := rowOf(p, x, id)
	if e != api.OK {
		return "", e
	}
	raw, e := makeOf(row)
	if e != api.OK {
		return "", e
	}
	if object.ID(raw) != id {
		return "", api.ErrSpoilt
	}
	return raw, api.OK
}

// rowOf is the item of an id, that of its base, and so on, up to a whole one.
func rowOf(p string, x *index.Index, id string) ([]api.Item, api.Errno) {
	var row []api.Item
	seen := map[string]int{} // behind how many others each id came
	for {
		if _, ring := seen[id]; ring {
			return nil, api.ErrChain
		}
		seen[id] = len(seen)
		item, e := itemOf(p, x, id)
		if e != api.OK {
			return nil, e
		}
		// A row that is too long is gone along to its end, since a base that is not known comes first; but no more of it is held.
		if len(row) <= api.MostChain {
			row = append(row, item)
		}
		if item.Base == noBase {
			break
		}
		id = item.Base
	}
	if len(seen)-1 > api.MostChain {
		return nil, api.ErrChain
	}
	return row, api.OK
}

// itemOf is the item of an id.
func itemOf(p string, x *index.Index, id string) (api.Item, api.Errno) {
	at, is := x.Find(id)
	if !is {
		return api.Item{}, api.ErrGone
	}
	return pack.One(p, at)
}

// makeOf is the bytes of a row's first item: the last one is whole, each other is made of the one behind it.
func makeOf(row []api.Item) (string, api.Errno) {
	last := len(row) - 1
	raw, e := row[last].Data, api.OK
	for i := last - 1; i >= 0; i-- {
		if raw, e = delta.Apply(raw, row[i].Data, mostRaw); e != api.OK {
			return "", e
		}
	}
	return raw, api.OK
}
