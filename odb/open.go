package odb

import (
	"strings"

	"pollard/api"
	"pollard/chain"
	"pollard/code"
	"pollard/index"
	"pollard/keep"
	"pollard/loose"
	"pollard/pack"
	"pollard/vfs"
)

// Open makes ready: what was coming goes, indexes that are not there, or are not those of their packs, are made anew.
func Open(f *vfs.FS) (*DB, api.Errno) {
	if e := makeReady(f); e != api.OK {
		return nil, e
	}
	names, e := f.List(folder)
	if e != api.OK {
		return nil, e
	}
	d := &DB{f: f, packs: map[string]*bundle{}}
	for _, name := range names {
		if e := d.takeUp(name); e != api.OK {
			return nil, e
		}
	}
	return d, api.OK
}

// makeReady makes the folders, and takes away what was coming.
func makeReady(f *vfs.FS) api.Errno {
	if e := loose.Open(f); e != api.OK {
		return e
	}
	if e := makeFolder(f); e != api.OK {
		return e
	}
	return keep.Clear(f, folder, incoming)
}

// makeFolder makes the folder of the packs, for sure, if it is not there.
func makeFolder(f *vfs.FS) api.Errno {
	// Read tells of a folder at once; List would go over all that stands in it.
	if _, e := f.Read(folder); e == api.ErrDir {
		return api.OK
	}
	if e := f.Mkdir(folder); e != api.OK {
		return e
	}
	return f.SyncDir(root)
}

// takeUp takes up what stands in the folder under a name, if that is one of a pack or of an index.
func (d *DB) takeUp(name string) api.Errno {
	if digits, is := strings.CutSuffix(name, indexTail); is {
		return d.tidy(digits)
	}
	if digits, is := strings.CutSuffix(name, packTail); is {
		return d.load(digits)
	}
	return api.OK
}

// tidy takes an index away whose pack is not there: a fall came while the pack went.
func (d *DB) tidy(digits string) api.Errno {
	if _, e := d.f.Read(packFile(digits)); e == api.OK {
		return api.OK
	}
	return keep.Clear(d.f, folder, indexFile(digits))
}

// load takes up a pack.
func (d *DB) load(digits string) api.Errno {
	p, e := d.f.Read(packFile(digits))
	if e != api.OK {
		return e
	}
	sum, e := pack.Sum(p)
	if e != api.OK || code.Hex(sum) != digits {
		return api.ErrSpoilt
	}
	x := d.readIndex(sum)
	if x == nil {
		if x, e = d.newIndex(p); e != api.OK {
			return e
		}
	}
	d.hold(x)
	return api.OK
}

// readIndex is the index of a pack as it is kept; nil, if there is none that can be read, or it is of another pack.
func (d *DB) readIndex(sum string) *index.Index {
	s, e := d.f.Read(indexFile(code.Hex(sum)))
	if e != api.OK {
		return nil
	}
	x, e := index.Load(s)
	if e != api.OK || x.Pack() != sum {
		return nil
	}
	return x
}

// newIndex is the index of a pack, made anew and laid.
func (d *DB) newIndex(p string) (*index.Index, api.Errno) {
	_, x, e := chain.Unpack(p)
	if e != api.OK {
		return nil, api.ErrSpoilt
	}
	if e := d.layIndex(x); e != api.OK {
		return nil, e
	}
	return x, api.OK
}
