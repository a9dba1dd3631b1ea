package odb_test

import (
	"slices"
	"strings"
	"testing"

	"pollard/api"
	"pollard/odb"
)

// Promise 15.1, Open: a new place: the folders of both kinds are made, for sure, and nothing is in them.
func TestOpenNew(t *testing.T) {
	wantSteps(t, "new", empty(t), opens, "mkdir objects", "syncdir ", "syncdir objects", "mkdir packs", "syncdir ")
	f := empty(t)
	d := opened(t, f)
	wantAll(t, "new", d, nil, nil, nil)
	if d.FS() != f {
		t.Error("it is kept elsewhere")
	}
	if l, e := fallen(f).List(""); e != api.OK || !slices.Equal(l, []string{"objects/", "packs/"}) {
		t.Errorf("behind a fall there is %q, %d", l, e)
	}
}

// Promise 15.1, Open: where all is there already, and as it must be, nothing is done but what loose.Open does.
func TestOpenAgain(t *testing.T) {
	alone, in := someRaws(), blobs(5, "packed")
	p := packOf(t, in...)
	f := holding(t, alone, p).FS()
	wantSteps(t, "again", f, opens, "syncdir objects")
	d := opened(t, f)
	wantAll(t, "again", d, alone, []string{p}, with(alone, in))
	wantAll(t, "behind a fall", opened(t, fallen(f)), alone, []string{p}, with(alone, in))
}

// Promise 15.1, Open: what loose.Open takes away, and what it says.
func TestOpenLoose(t *testing.T) {
	f := holding(t, nil).FS()
	play(t, f, "write objects/incoming left")
	wantSteps(t, "left", f, opens, "remove objects/incoming", "syncdir objects")

	f = empty(t)
	play(t, f, "write objects x")
	wantSteps(t, "a file in the folder's place", f, opens, "mkdir objects")
}

// Promise 15.1, Open: packs/incoming is cleared, for sure, and behind all that loose.Open does.
func TestOpenIncoming(t *testing.T) {
	in := blobs(3, "packed")
	p := packOf(t, in...)
	for _, left := range []string{"", "left", p} {
		f := holding(t, nil, p).FS()
		play(t, f, "write packs/incoming "+left, "write objects/incoming left")
		wantSteps(t, "left", f, opens, "remove objects/incoming", "syncdir objects", "remove packs/incoming", "syncdir packs")
		wantAll(t, "left", opened(t, f), nil, []string{p}, in)
		if s, e := fallen(f).Read(incoming); e != api.ErrGone {
			t.Errorf("behind a fall it is there: %.80q, %d", s, e)
		}
	}
	f := empty(t)
	play(t, f, "mkdir packs", "mkdir packs/incoming", "write packs/incoming/x x")
	wantErr(t, "a folder that is not empty", opens(t, f)(), api.ErrThere)
}

// Promise 15.1, Open: a file where the folder packs must be.
func TestOpenNoFolder(t *testing.T) {
	f := empty(t)
	play(t, f, "write packs x")
	wantErr(t, "a file", opens(t, f)(), api.ErrThere)
}

// Promise 15.1, Open: without power, and of a nil place.
func TestOpenStill(t *testing.T) {
	wantErr(t, "nil", opens(t, nil)(), api.ErrStill)
	wantErr(t, "new, dead", opens(t, dead(empty(t)))(), api.ErrStill)
	f := holding(t, someRaws(), packOf(t, blobs(3, "packed")...)).FS()
	wantErr(t, "dead", opens(t, dead(f))(), api.ErrStill)
}

// Promise 15.1, Open: an index without a pack is cleared, for sure, whatever its bytes and its name are.
func TestOpenIndexAlone(t *testing.T) {
	p, other := packOf(t, blobs(3, "packed")...), packOf(t, blobs(2, "other")...)
	for _, bytes := range []string{"", "x", trueIndex(t, p), trueIndex(t, other)} {
		for _, path := range []string{indexAt(p), "packs/x.index", "packs/.index", "packs/incoming.index", "packs/" + strings.Repeat("x", 188) + ".index"} {
			f := holding(t, nil, other).FS()
			play(t, f, "write "+path+" "+bytes)
			wantSteps(t, path, f, opens, "syncdir objects", "remove "+path, "syncdir packs")
			wantAll(t, path, opened(t, f), nil, []string{other}, blobs(2, "other"))
		}
	}
	f := holding(t, nil).FS()
	play(t, f, "mkdir "+packAt(p), "write "+indexAt(p)+" "+trueIndex(t, p))
	wantSteps(t, "a folder in the pack's place", f, opens, "syncdir objects", "remove "+indexAt(p), "syncdir packs")
}

// Promise 15.1, Open: what else stands in the folder is passed over.
func TestOpenOthers(t *testing.T) {
	p := packOf(t, blobs(3, "packed")...)
	digits := digitsOf(wholeOf(p))
	for _, l := range [][]string{
		{"write packs/" + digits + " " + p}, {"write packs/" + digits + ".pack.new " + p}, {"write packs/" + digits + ".index.old x"},
		{"write packs/pack x", "write packs/index x", "write packs/xpack x", "write packs/xindex x"},
		{"mkdir " + packAt(p)}, {"mkdir " + indexAt(p)}, {"mkdir packs/x.pack", "write packs/x.pack/y.pack x", "write packs/x.pack/y.index x"},
		{"write " + digits + ".pack " + p, "write " + digits + ".index x", "write objects/" + digits + ".pack " + p},
	} {
		f := holding(t, nil).FS()
		play(t, f, l...)
		wantSteps(t, l[0], f, opens, "syncdir objects")
		wantAll(t, l[0], opened(t, f), nil, nil, nil)
	}
}

// spoiltPacks is bytes that a pack's file may have that are not its own.
func spoiltPacks(t *testing.T, p string) []string {
	t.Helper()
	l := []string{"", "x", p[:31], p[:32], p[:len(p)-1], p[1:], p + "x", p + p, packOf(t, blobs(4, "packed")...), sealed(""), strings.Repeat("x", api.MostPack+1)}
	for i := range len(p) {
		b := []byte(p)
		b[i] ^= 1
		l = append(l, string(b))
	}
	return l
}

// Promise 15.1, Open: a pack whose sum is not that of its name is told as spoilt, even if its index is right.
func TestOpenSpoilt(t *testing.T) {
	p := packOf(t, blobs(3, "packed")...)
	for _, bytes := range spoiltPacks(t, p) {
		f := holding(t, nil, p).FS()
		play(t, f, "write "+packAt(p)+" "+bytes)
		wantSteps(t, "spoilt", f, opens, "syncdir objects", "spoilt")
	}
}

// Promise 15.1, Open: a pack under a name that says another sum, or none.
func TestOpenOtherName(t *testing.T) {
	p, other := packOf(t, blobs(3, "packed")...), packOf(t, blobs(2, "other")...)
	digits := digitsOf(wholeOf(p))
	for _, path := range []string{packAt(other), "packs/x.pack", "packs/.pack", "packs/" + digits[1:] + ".pack", "packs/" + digits + "0.pack", "packs/" + digits + ".pack.pack", "packs/0" + digits[1:] + ".pack", "packs/" + strings.Repeat("x", 189) + ".pack"} {
		f := holding(t, nil, p).FS()
		play(t, f, "rename "+packAt(p)+" "+path, "remove "+indexAt(p))
		wantErr(t, path, opens(t, f)(), api.ErrSpoilt)
	}
}

// Promise 15.1, Open: file by file, by their names: what stands ahead of a spoilt pack is done, what stands behind it is not.
func TestOpenInOrder(t *testing.T) {
	p := packOf(t, blobs(3, "packed")...)
	at := packAt(p)
	f := holding(t, nil, p).FS()
	play(t, f, "remove "+indexAt(p), "write packs/-.index x", "write packs/z.index x", "write packs/y.pack x")
	lay := layLines(indexAt(p), trueIndex(t, p))
	wantSteps(t, "spoilt at the end", f, opens, slices.Concat([]string{"syncdir objects", "remove packs/-.index", "syncdir packs"}, lay, []string{"spoilt"})...)
	play(t, f, "rename packs/y.pack packs/-.pack")
	wantSteps(t, "spoilt at first", f, opens, "syncdir objects", "spoilt")
	play(t, f, "remove packs/-.pack", "remove packs/-.index", "write "+at+" x")
	wantSteps(t, "spoilt in the middle", f, opens, "syncdir objects", "spoilt")
	play(t, f, "write "+at+" "+p)
	wantSteps(t, "not spoilt", f, opens, slices.Concat([]string{"syncdir objects"}, lay, []string{"remove packs/z.index", "syncdir packs"})...)
}

// spoiltIndexes is bytes that a pack's index may have that can't be read, or are of another pack.
func spoiltIndexes(t *testing.T, p string) []string {
	t.Helper()
	x := trueIndex(t, p)
	other := packOf(t, blobs(4, "packed")...)
	l := []string{"", "x", x[:len(x)-1], x + "x", x[1:], p, sealed(x[:len(x)-32] + "x"), sealed("P" + x[1:len(x)-32]), trueIndex(t, other), indexOf(t, other, spotsOf(t, p))}
	for i := 0; i < len(x); i += 7 {
		b := []byte(x)
		b[i] ^= 1
		l = append(l, string(b))
	}
	return l
}

// Promise 15.1, Open: an index that can't be read, is of another pack, or is not there, is made anew and laid.
func TestOpenIndexAnew(t *testing.T) {
	in := blobs(3, "packed")
	p := packOf(t, in...)
	lines := slices.Concat([]string{"syncdir objects"}, layLines(indexAt(p), trueIndex(t, p)))
	for _, bytes := range spoiltIndexes(t, p) {
		f := holding(t, nil, p).FS()
		play(t, f, "write "+indexAt(p)+" "+bytes)
		wantSteps(t, "another index", f, opens, lines...)
		wantAll(t, "another index", opened(t, f), nil, []string{p}, in)
		wantSteps(t, "then", f, opens, "syncdir objects")
	}
	f := holding(t, nil, p).FS()
	play(t, f, "remove "+indexAt(p))
	wantSteps(t, "none", f, opens, lines...)
	wantAll(t, "none", opened(t, f), nil, []string{p}, in)
	wantSteps(t, "none, then", fallen(f), opens, "syncdir objects")

	play(t, f, "remove "+indexAt(p), "mkdir "+indexAt(p))
	wantSteps(t, "a folder in its place", f, opens, slices.Concat(lines[:3], []string{"rename packs/incoming " + indexAt(p)})...)
}

// Promise 15.1, Open: an index that can be read and is of the pack is taken as it is; it may know fewer objects than the pack has, or other places.
func TestOpenIndexTaken(t *testing.T) {
	in := blobs(3, "packed")
	p := packOf(t, in...)
	f := holding(t, nil, p).FS()
	some := slices.DeleteFunc(spotsOf(t, p), func(x api.Spot) bool { return x.ID == sumOf(in[2]) })
	play(t, f, "write "+indexAt(p)+" "+indexOf(t, p, some))
	wantSteps(t, "fewer", f, opens, "syncdir objects")
	d := opened(t, f)
	wantAll(t, "fewer", d, nil, []string{p}, in[:2])
	wantNoGet(t, "fewer", d, sumOf(in[2]), api.ErrGone, false)
}

// Promise 15.1, Open: where there is no room for an index it is not laid, and that is no error; with room it is.
func TestOpenIndexNoRoom(t *testing.T) {
	in := blobs(3, "packed")
	p := packOf(t, in...)
	x := trueIndex(t, p)
	for _, left := range []string{"", "x", x[:len(x)-1], strings.Repeat("x", 3000)} {
		f := holding(t, nil, p).FS()
		play(t, f, "remove "+indexAt(p))
		if left != "" {
			play(t, f, "write "+indexAt(p)+" "+left)
		}
		f.Room(f.Used() + len(x) - 1)
		wantSteps(t, "no room", f, opens, "syncdir objects")
		d := opened(t, f)
		wantAll(t, "no room", d, nil, []string{p}, in)
		if s, e := f.Read(indexAt(p)); s != left || e != api.OK && e != api.ErrGone {
			t.Errorf("no room: there stands %.80q, %d; wanted %.80q", s, e, left)
		}
		f.Room(f.Used() + len(x))
		wantSteps(t, "room", f, opens, slices.Concat([]string{"syncdir objects"}, layLines(indexAt(p), x))...)
		wantAll(t, "room", opened(t, f), nil, []string{p}, in)
	}
}

// wrongPacks is packs with a right sum of which no index can be made, each with the error of chain.Unpack.
func wrongPacks(t testing.TB) map[string]api.Errno {
	t.Helper()
	raws := blobs(2, "packed")
	one, none := builtOf(t, []api.Item{{Data: raws[0]}}), builtOf(t, nil)
	l := map[string]api.Errno{
		sealed("another line\n\x00"):                                              api.ErrBad,
		sealed(none[:len(none)-33]):                                               api.ErrEnd,
		sealed(none[:len(none)-32] + "x"):                                         api.ErrRest,
		sealed(one[:len(one)-33]):                                                 api.ErrEnd,
		sealed(one[:14] + "x" + one[15:len(one)-32]):                              api.ErrBad,
		builtOf(t, []api.Item{{Data: raws[0]}, {Data: raws[0]}}):                  api.ErrTwin,
		builtOf(t, []api.Item{{Base: sumOf("lost"), Data: "x"}}):                  api.ErrChain,
		builtOf(t, []api.Item{{Data: raws[0]}, {Base: sumOf(raws[0]), Data: ""}}): api.ErrEnd,
	}
	for raw, e := range noObjects() {
		l[builtOf(t, []api.Item{{Data: raws[0]}, {Data: raw}})] = e
	}
	return l
}

// Promise 15.1, Open: a pack of which no index can be made is told as spoilt; with an index it is taken.
func TestOpenNoIndex(t *testing.T) {
	for p := range wrongPacks(t) {
		f := holding(t, nil).FS()
		play(t, f, "write "+packAt(p)+" "+p)
		wantSteps(t, "no index", f, opens, "syncdir objects", "spoilt")
		play(t, f, "write "+indexAt(p)+" x")
		wantSteps(t, "a spoilt index", f, opens, "syncdir objects", "spoilt")
		id := sumOf("an id")
		play(t, f, "write "+indexAt(p)+" "+indexOf(t, p, []api.Spot{{ID: id, At: 14}}))
		wantSteps(t, "an index", f, opens, "syncdir objects")
		d := opened(t, f)
		wantList(t, "IDs", d.IDs(), []string{id})
		wantList(t, "Packs", d.Packs(), []string{wholeOf(p)})
		if s, e := d.Get(id); s != "" || e == api.OK {
			t.Errorf("Get: %.80q, %d", s, e)
		}
	}
}

// Promise 15.1, Open: many packs, of one object each and of as many as may be; and one of nothing.
func TestOpenMany(t *testing.T) {
	all := blobs(2*api.MostItems, "many")
	added := []string{packOf(t, all[:api.MostItems]...), packOf(t)}
	for _, raw := range all[api.MostItems : api.MostItems+40] {
		added = append(added, packOf(t, raw))
	}
	all = all[:api.MostItems+40]
	f := holding(t, nil, added...).FS()
	wantAll(t, "many", opened(t, f), nil, added, all)
	wantAll(t, "many, behind a fall", opened(t, fallen(f)), nil, added, all)
	for _, p := range added {
		play(t, f, "remove "+indexAt(p))
	}
	wantAll(t, "many, without indexes", opened(t, f), nil, added, all)
}

// Promise R5 of DOC.md, Open: two that are opened on one place behind one another tell the same.
func TestOpenTwice(t *testing.T) {
	alone, in := someRaws(), blobs(3, "packed")
	p := packOf(t, in...)
	d := holding(t, alone, p)
	again, e := odb.Open(d.FS())
	if e != api.OK || again == d || again.FS() != d.FS() {
		t.Fatal(e)
	}
	wantAll(t, "first", d, alone, []string{p}, with(alone, in))
	wantAll(t, "again", again, alone, []string{p}, with(alone, in))
}
