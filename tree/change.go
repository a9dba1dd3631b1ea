package tree

import (
	"slices"
	"strings"

	"pollard/api"
)

// Get is the entry of a name.
func Get(l []api.Entry, name string) (api.Entry, bool) {
	from, to := place(l, name)
	if from == to {
		return api.Entry{}, false
	}
	return l[from], true
}

// With is a tree with an entry, in the place of one of that name.
func With(l []api.Entry, x api.Entry) []api.Entry {
	from, to := place(l, x.Name)
	return slices.Concat(l[:from], []api.Entry{x}, l[to:])
}

// Without is a tree without a name: whether it was there.
func Without(l []api.Entry, name string) ([]api.Entry, bool) {
	from, to := place(l, name)
	return slices.Concat(l[:from], l[to:]), from < to
}

// place is where the entry of a name begins and ends; both are where it would stand, if there is none.
func place(l []api.Entry, name string) (from, to int) {
	at, is := slices.BinarySearchFunc(l, name, againstName)
	if is {
		return at, at + 1
	}
	return at, at
}

func againstName(x api.Entry, name string) int { return strings.Compare(x.Name, name) }
