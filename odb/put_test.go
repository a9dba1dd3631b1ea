package odb_test

import (
	"slices"
	"testing"

	"pollard/api"
	"pollard/odb"
)

// Promise 15.1, Put: each of object.Links' errors, with nothing done; also where there is no power, since it is named first.
func TestPutErrors(t *testing.T) {
	d := holding(t, someRaws()[:2], packOf(t, blobs(3, "packed")...))
	off := opened(t, d.FS().Clone())
	off.FS().Crash(0, 0)
	for raw, want := range noObjects() {
		wantNoPut(t, d, raw, want)
		wantNoPut(t, off, raw, want)
		wantNoPut(t, nil, raw, api.ErrStill)
	}
	wantAll(t, "behind the errors", d, someRaws()[:2], []string{packOf(t, blobs(3, "packed")...)}, with(someRaws()[:2], blobs(3, "packed")))
}

// putLines is the calls by which loose.Put keeps a new object.
func putLines(t *testing.T, raw string) []string {
	t.Helper()
	return []string{"mkdir " + aloneIn(raw), "syncdir objects", "write objects/incoming " + pressed(t, raw), "sync objects/incoming", "rename objects/incoming " + aloneAt(raw), "syncdir " + aloneIn(raw)}
}

// Promise 15.1, Put: an object that is new comes by itself.
func TestPutNew(t *testing.T) {
	f := holding(t, nil, packOf(t, blobs(3, "packed")...)).FS()
	for _, raw := range with(someRaws(), blobs(4, "packed")[3:]) {
		wantSteps(t, "new", f, puts(raw), putLines(t, raw)...)
	}
	d := opened(t, f)
	wantPut(t, d, someRaws()...)
	wantAll(t, "put", d, someRaws(), []string{packOf(t, blobs(3, "packed")...)}, with(someRaws(), blobs(3, "packed")))
	wantAll(t, "put, and a fall", opened(t, fallen(f)), someRaws(), []string{packOf(t, blobs(3, "packed")...)}, with(someRaws(), blobs(3, "packed")))
}

// Promise 15.1, Put: nothing is written of what is there, by itself or in a pack.
func TestPutThere(t *testing.T) {
	in := blobs(3, "packed")
	f := holding(t, with(someRaws(), in[:1]), packOf(t, in...)).FS()
	for _, raw := range with(someRaws(), in) {
		wantSteps(t, "there", f, puts(raw))
	}
	d := opened(t, f)
	wantPut(t, d, with(someRaws(), in)...)
	wantList(t, "Loose", d.Loose(), idsOf(with(someRaws(), in[:1])))
}

// Promise 15.1, Put: an object whose file is spoilt is mended.
func TestPutMends(t *testing.T) {
	raws := someRaws()
	for _, bytes := range []string{"", "x", pressed(t, raws[2])} {
		f := holding(t, raws).FS()
		play(t, f, "write "+aloneAt(raws[1])+" "+bytes)
		wantSteps(t, "spoilt", f, puts(raws[1]), putLines(t, raws[1])[2:]...)
		d := opened(t, f)
		wantPut(t, d, raws[1])
		wantAll(t, "mended", d, raws, nil, raws)
		wantAll(t, "mended, and a fall", opened(t, fallen(f)), raws, nil, raws)
	}
}

// Promise 15.1, Put: an object that a pack says it has, but can't tell, comes by itself, and then it is there.
func TestPutBehindWrongPack(t *testing.T) {
	in := blobs(3, "packed")
	p := packOf(t, in...)
	f := holding(t, nil, p).FS()
	play(t, f, "write "+indexAt(p)+" "+indexOf(t, p, []api.Spot{{ID: sumOf(in[0]), At: 1}}))
	wantSteps(t, "not to be told", f, puts(in[0]), putLines(t, in[0])...)
	d := opened(t, f)
	wantNoGet(t, "ahead of it", d, sumOf(in[0]), api.ErrBad, true)
	wantPut(t, d, in[0])
	wantGet(t, "put", d, in[0])
	wantList(t, "IDs", d.IDs(), idsOf(in[:1]))
}

// Promise 15.1, Put: what loose.Put says: where there is no room; nothing is there then but a folder.
func TestPutNoRoom(t *testing.T) {
	raw := someRaws()[2]
	f := holding(t, nil).FS()
	f.Room(len(pressed(t, raw)) - 1)
	d := opened(t, f)
	if id, e := d.Put(raw); id != "" || e != api.ErrFull {
		t.Errorf("Put: %x, %d", id, e)
	}
	wantAll(t, "no room", d, nil, nil, nil)
	f.Room(len(pressed(t, raw)))
	wantPut(t, d, raw)
	wantAll(t, "room", d, []string{raw}, nil, []string{raw})
}

// Promise 15.1, DropLoose: the files of those that are there go, for sure: each folder in objects is made sure then, and nothing else is done.
func TestDropLoose(t *testing.T) {
	alone, in := someRaws(), blobs(3, "packed")
	p := packOf(t, with(in, alone[:1])...)
	f := holding(t, alone, p).FS()
	var folders []string
	for _, raw := range alone {
		folders = append(folders, "syncdir "+aloneIn(raw))
	}
	slices.Sort(folders)
	folders = slices.Compact(folders)
	gone := func(raws ...string) []string {
		var lines []string
		for _, raw := range raws {
			lines = append(lines, "remove "+aloneAt(raw))
		}
		return append(lines, folders...)
	}
	wantSteps(t, "none", f, dropsLoose(), gone()...)
	wantSteps(t, "one", f, dropsLoose(alone[1]), gone(alone[1])...)
	wantSteps(t, "some", f, dropsLoose(alone[3], alone[1], alone[2]), gone(alone[3], alone[1], alone[2])...)
	wantSteps(t, "twice", f, dropsLoose(alone[3], alone[3]), gone(alone[3])...)
	wantSteps(t, "not alone, not there", f, dropsLoose(in[0], "x", alone[3], in[1], ""), gone(alone[3])...)

	d := opened(t, f)
	wantErr(t, "no ids", d.DropLoose(noIDs()), api.OK)
	wantAll(t, "no ids", d, alone, []string{p}, with(alone, in))
	wantErr(t, "two", d.DropLoose(with(idsOf(alone[:2]), noIDs())), api.OK)
	wantAll(t, "two", d, alone[2:], []string{p}, with(alone[2:], alone[:1], in)) // the first one stands in the pack, too
	wantAll(t, "two, and a fall", opened(t, fallen(f)), alone[2:], []string{p}, with(alone[2:], alone[:1], in))
	wantNoGet(t, "gone", d, sumOf(alone[1]), api.ErrGone, false)
	wantPut(t, d, alone[1])
	wantErr(t, "all", d.DropLoose(d.Loose()), api.OK)
	wantAll(t, "all", d, nil, []string{p}, with(alone[:1], in))
	wantAll(t, "all, and a fall", opened(t, fallen(f)), nil, []string{p}, with(alone[:1], in))
}

// Promise 15.1, DropLoose: a file that is spoilt goes, too; a folder in a file's place does not.
func TestDropLooseSpoilt(t *testing.T) {
	raws := blobs(2, "alone")
	d := holding(t, raws)
	play(t, d.FS(), "write "+aloneAt(raws[0])+" spoilt", "remove "+aloneAt(raws[1]), "mkdir "+aloneAt(raws[1]))
	wantErr(t, "DropLoose", d.DropLoose(idsOf(raws)), api.OK)
	wantNoGet(t, "spoilt", d, sumOf(raws[0]), api.ErrGone, false)
	wantNoGet(t, "a folder", d, sumOf(raws[1]), api.ErrDir, false)
	wantAll(t, "DropLoose", d, nil, nil, nil)
}

// Promise 15.1, Put and DropLoose of one that was opened ahead of others: each tells what is there.
func TestPutTwoDBs(t *testing.T) {
	one := holding(t, nil)
	other, e := odb.Open(one.FS())
	if e != api.OK {
		t.Fatal(e)
	}
	raws := someRaws()
	wantPut(t, one, raws[0])
	wantPut(t, other, raws[1])
	wantAll(t, "one", one, raws[:2], nil, raws[:2])
	wantErr(t, "DropLoose", other.DropLoose(idsOf(raws[:1])), api.OK)
	wantAll(t, "one", one, raws[1:2], nil, raws[1:2])
}
