package vfs

import (
	"slices"
	"strings"

	"pollard/api"
)

// What is done to names.
const (
	comes = iota // a folder or a file, under a path
	moves        // a file, to another path
	goes         // a folder or a file
)

// file is one that was written, whatever its names are.
type file struct {
	number      int    // in the order in which files came
	bytes, sure string // as they are, and as they are sure to be
	links       int    // how many of the names that are now stand for it: falls may leave several
}

// act is something that was done to names.
type act struct {
	kind     int
	path, to string
	file     *file // nil: it is done to a folder
}

// names are what stands under paths; the root is not among them. A folder is nil: it never gets another path, so that one is as good as another.
type names map[string]*file

// Path tells whether a text may be a path: names of a to z, 0 to 9, . - and _ with a / between each two.
func Path(p string) bool {
	if len(p) > api.MostPath {
		return false
	}
	strange := func(r rune) bool {
		letter, digit := 'a' <= r && r <= 'z', '0' <= r && r <= '9'
		return !letter && !digit && r != '.' && r != '-' && r != '_'
	}
	for _, name := range strings.Split(p, "/") {
		if name == "" || name == "." || name == ".." || strings.ContainsFunc(name, strange) {
			return false
		}
	}
	return true
}

// folderOf is the folder in which a path stands; empty: the root.
func folderOf(p string) string {
	return p[:max(strings.LastIndexByte(p, '/'), 0)]
}

// folder tells whether a folder stands there.
func (n names) folder(p string) bool {
	x, there := n[p]
	return p == "" || there && x == nil
}

// bare tells whether nothing stands in what stands there.
func (n names) bare(p string) bool {
	if !n.folder(p) {
		return true
	}
	for q := range n {
		if folderOf(q) == p {
			return false
		}
	}
	return true
}

// list is the paths in a folder, sorted: by the names, since all that stands ahead of these is the same.
func (n names) list(p string) []string {
	var l []string
	for q := range n {
		if folderOf(q) == p {
			l = append(l, q)
		}
	}
	slices.Sort(l)
	return l
}

// do does something to names that may be others than those that it was done to first: where these do not allow it, nothing.
func (n names) do(a act) {
	x, there := n[a.path]
	switch a.kind {
	case comes:
		if !there && n.folder(folderOf(a.path)) {
			n[a.path] = a.file
		}
	case moves:
		if !n.folder(folderOf(a.to)) || !n.bare(a.to) {
			return
		}
		if x == a.file {
			delete(n, a.path)
		}
		n[a.to] = a.file
	case goes:
		if there && x == a.file && n.bare(a.path) { // another one may stand there
			delete(n, a.path)
		}
	}
}

// in tells whether it was done in that folder.
func (a act) in(p string) bool {
	return folderOf(a.path) == p || a.kind == moves && folderOf(a.to) == p
}
