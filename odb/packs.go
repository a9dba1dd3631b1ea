package odb

import (
	"pollard/api"
	"pollard/chain"
	"pollard/code"
	"pollard/index"
	"pollard/keep"
	"pollard/vfs"
)

const (
	root      = ""
	slash     = "/"
	folder    = "packs"
	incoming  = folder + slash + "incoming"
	packTail  = ".pack"
	indexTail = ".index"
)

// bundle is a pack: its index, and the file in which its bytes stand.
type bundle struct {
	*index.Index
	file string
}

// packFile is the file of the pack whose sum has these digits, and indexFile that of its index.
func packFile(digits string) string  { return folder + slash + digits + packTail }
func indexFile(digits string) string { return folder + slash + digits + indexTail }

// read is one of its objects.
func (b *bundle) read(f *vfs.FS, id string) (string, api.Errno) {
	p, e := f.Read(b.file)
	if e != api.OK {
		return "", e
	}
	return chain.Read(p, b.Index, id)
}

// hold takes a pack among those that are there, by its index.
func (d *DB) hold(x *index.Index) {
	d.packs[x.Pack()] = &bundle{Index: x, file: packFile(code.Hex(x.Pack()))}
}

// first is the first pack, by their sums, that has an object; nil, if none has it.
func (d *DB) first(id string) *bundle {
	var first *bundle
	for _, b := range d.packs {
		if _, is := b.Find(id); is && (first == nil || b.Pack() < first.Pack()) {
			first = b
		}
	}
	return first
}

// layIndex lays a pack's index, if there is room for it: without it, it is made anew by Open.
func (d *DB) layIndex(x *index.Index) api.Errno {
	e := keep.Lay(d.f, folder, incoming, indexFile(code.Hex(x.Pack())), x.Encode())
	if e == api.ErrFull {
		return api.OK
	}
	return e
}

// AddPack keeps a pack whose objects are all of the form: how many these are.
func (d *DB) AddPack(p string) (int, api.Errno) {
	if d.still() {
		return 0, api.ErrStill
	}
	raws, x, e := chain.Unpack(p)
	if e != api.OK {
		return 0, e
	}
	if !d.there(p, x.Pack()) {
		e = d.lay(p, x)
	}
	if e != api.OK {
		return 0, e
	}
	return len(raws), api.OK
}

// there tells whether a pack is there. Its bytes are asked for, since a fall while it was dropped may have taken its file.
func (d *DB) there(p, sum string) bool {
	b := d.packs[sum]
	if b == nil {
		return false
	}
	s, e := d.f.Read(b.file)
	return e == api.OK && s == p
}

// lay lays a pack, and its index.
func (d *DB) lay(p string, x *index.Index) api.Errno {
	if e := keep.Lay(d.f, folder, incoming, packFile(code.Hex(x.Pack())), p); e != api.OK {
		return e
	}
	d.hold(x) // whatever becomes of its index
	return d.layIndex(x)
}

// DropPack takes a pack away. Its index goes behind it, so that no fall leaves a pack whose index has to be made anew.
func (d *DB) DropPack(sum string) api.Errno {
	if d.still() {
		return api.ErrStill
	}
	b := d.packs[sum]
	if b == nil {
		return api.ErrGone
	}
	if e := keep.Clear(d.f, folder, b.file); e != api.OK {
		return e
	}
	delete(d.packs, sum)
	return keep.Clear(d.f, folder, indexFile(code.Hex(sum)))
}
