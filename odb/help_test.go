package odb_test

import (
	"crypto/sha256"
	"fmt"
	"slices"
	"strings"
	"testing"

	"pollard/api"
	"pollard/chain"
	"pollard/index"
	"pollard/lz"
	"pollard/odb"
	"pollard/pack"
	"pollard/sample"
	"pollard/vfs"
)

const (
	objects  = "objects"
	packs    = "packs"
	incoming = "packs/incoming"
)

// sumOf is the sum by the library.
func sumOf(s string) string {
	b := sha256.Sum256([]byte(s))
	return string(b[:])
}

// digitsOf is the digits of a text's bytes.
func digitsOf(s string) string { return fmt.Sprintf("%x", s) }

// rawOf is the bytes of an object by the word of its kind, whatever that is.
func rawOf(word, body string) string { return fmt.Sprintf("%s %d\x00%s", word, len(body), body) }

func blob(body string) string { return rawOf("blob", body) }

// blobs is n blobs that have much in common, and are not those of another word.
func blobs(n int, word string) []string {
	var l []string
	for i := range n {
		l = append(l, blob(fmt.Sprintf("%s %d of blobs that are much alike, and so are made of one another", word, i)))
	}
	return l
}

// someRaws are objects of each kind.
func someRaws() []string {
	id := digitsOf(sumOf("any"))
	return []string{
		blob(""), blob("x"), blob(sample.Text(3000)), rawOf("tree", ""), rawOf("tree", "file a\x00"+sumOf("a")+"tree b\x00"+sumOf("b")),
		rawOf("commit", "tree "+id+"\nauthor Ann\ntime 7\n\nwhy"), rawOf("tag", "object "+id+"\nkind commit\nname v-1\n\nhere"),
	}
}

// noObjects are texts that are no objects' bytes, each with the error of Links.
func noObjects() map[string]api.Errno {
	entry := "file a\x00" + sumOf("a")
	return map[string]api.Errno{
		"": api.ErrBad, "x": api.ErrBad, "blob 3": api.ErrBad, "blob\x00": api.ErrBad, "blob 03\x00abc": api.ErrBad, "commit 0\x00": api.ErrBad, "tag 0\x00": api.ErrBad,
		"blop 3\x00abc":                   api.ErrKind,
		"blob 3\x00ab":                    api.ErrEnd,
		"blob 3\x00abcd":                  api.ErrRest,
		"blob 262145\x00":                 api.ErrMuch,
		rawOf("tree", entry[:20]):         api.ErrEnd,
		rawOf("tree", "mode"+entry[4:]):   api.ErrMode,
		rawOf("tree", "file /"+entry[6:]): api.ErrLabel,
		rawOf("tree", entry+entry):        api.ErrOrder,
	}
}

// noIDs are texts that are no ids, or of nothing that is there.
func noIDs() []string {
	id := sumOf("nothing of this is there")
	return []string{"", "i", id, id[:31], id + "i", id + id, digitsOf(id), "incoming", packs, objects, "..", "/", strings.Repeat("i", 1<<16)}
}

// aloneAt is where an object stands by itself, and aloneIn in which folder.
func aloneAt(raw string) string {
	digits := digitsOf(sumOf(raw))
	return "objects/" + digits[:2] + "/" + digits[2:]
}

func aloneIn(raw string) string { return aloneAt(raw)[:len("objects/00")] }

// pressed is a text's pressed bytes.
func pressed(t testing.TB, s string) string {
	t.Helper()
	p, e := lz.Press(s)
	if e != api.OK {
		t.Fatal(e)
	}
	return p
}

// builtOf is the pack of items.
func builtOf(t testing.TB, l []api.Item) string {
	t.Helper()
	p, e := pack.Build(l)
	if e != api.OK {
		t.Fatal(e)
	}
	return p
}

// packOf is the pack of objects, each made of the one ahead of it, where that may be.
func packOf(t testing.TB, raws ...string) string {
	t.Helper()
	bases := make([]int, len(raws))
	for i := range bases {
		bases[i] = i - 1
	}
	return builtOf(t, chain.Items(raws, bases))
}

// sealed is a pack's bytes with the right sum behind them.
func sealed(body string) string { return body + sumOf(body) }

// wholeOf is the sum of a pack.
func wholeOf(p string) string { return p[len(p)-api.IDBytes:] }

// packAt is where a pack stands, and indexAt where its index does.
func packAt(p string) string  { return "packs/" + digitsOf(wholeOf(p)) + ".pack" }
func indexAt(p string) string { return "packs/" + digitsOf(wholeOf(p)) + ".index" }

// spotsOf is where the objects of a pack stand in it.
func spotsOf(t testing.TB, p string) []api.Spot {
	t.Helper()
	_, x, e := chain.Unpack(p)
	if e != api.OK {
		t.Fatal(e)
	}
	return x.All()
}

// indexOf is the bytes of a pack's index with these spots.
func indexOf(t testing.TB, p string, spots []api.Spot) string {
	t.Helper()
	x, e := index.New(wholeOf(p), spots)
	if e != api.OK {
		t.Fatal(e)
	}
	return x.Encode()
}

// trueIndex is the bytes of a pack's index.
func trueIndex(t testing.TB, p string) string { return indexOf(t, p, spotsOf(t, p)) }

// empty is one in which nothing is.
func empty(t testing.TB) *vfs.FS {
	t.Helper()
	f, e := vfs.New(1 << 25)
	if e != api.OK {
		t.Fatal(e)
	}
	return f
}

// opened is the objects that are kept there.
func opened(t testing.TB, f *vfs.FS) *odb.DB {
	t.Helper()
	d, e := odb.Open(f)
	if e != api.OK || d == nil {
		t.Fatalf("Open: %v, %d", d != nil, e)
	}
	return d
}

// holding is one in which these stand alone, and these packs were added.
func holding(t testing.TB, alone []string, added ...string) *odb.DB {
	t.Helper()
	d := opened(t, empty(t))
	wantPut(t, d, alone...)
	for _, p := range added {
		wantAdd(t, d, p, len(spotsOf(t, p)))
	}
	return d
}

// dead is the same without power.
func dead(f *vfs.FS) *vfs.FS {
	f = f.Clone()
	f.Crash(1<<62-1, 0)
	return f
}

// fallen is the same behind a fall that keeps nothing of what is not sure.
func fallen(f *vfs.FS) *vfs.FS {
	f = f.Clone()
	f.Crash(0, 0)
	f.Up()
	return f
}

// line plays one call, told as its words: mkdir d, write a TEXT, sync a, syncdir d (alone: the root), rename a b, remove a. The word spoilt is what fails with ErrSpoilt, and does nothing.
func line(f *vfs.FS, s string) api.Errno {
	w := append(strings.SplitN(s, " ", 3), "", "")
	switch w[0] {
	case "mkdir":
		return f.Mkdir(w[1])
	case "write":
		return f.Write(w[1], w[2])
	case "sync":
		return f.Sync(w[1])
	case "syncdir":
		return f.SyncDir(w[1])
	case "rename":
		return f.Rename(w[1], w[2])
	case "remove":
		return f.Remove(w[1])
	case "spoilt":
		return api.ErrSpoilt
	}
	panic(s)
}

// play plays calls that must all be done, and makes sure what they did.
func play(t testing.TB, f *vfs.FS, lines ...string) {
	t.Helper()
	for _, s := range lines {
		if e := line(f, s); e != api.OK {
			t.Fatalf("%.80q: %d", s, e)
		}
	}
	f.Crash(1<<62-1, 0)
	f.Up()
}

// layLines is the calls that lay a file of the folder packs.
func layLines(path, s string) []string {
	return []string{"write packs/incoming " + s, "sync packs/incoming", "rename packs/incoming " + path, "syncdir packs"}
}

// told is all that stands there, folder by folder: names with a / behind them, or with = and the bytes.
func told(t testing.TB, f *vfs.FS, folder string) string {
	t.Helper()
	l, e := f.List(strings.TrimSuffix(folder, "/"))
	if e != api.OK {
		t.Fatalf("List(%s): %d", folder, e)
	}
	var out []string
	for _, name := range l {
		if strings.HasSuffix(name, "/") {
			out = append(out, folder+name, told(t, f, folder+name))
			continue
		}
		s, e := f.Read(folder + name)
		if e != api.OK {
			t.Fatalf("Read(%s): %d", folder+name, e)
		}
		out = append(out, folder+name+"="+s)
	}
	return strings.Join(out, " ")
}

// wantSame wants the same to stand there, behind as many steps, and behind each fall, too.
func wantSame(t testing.TB, what string, got, want *vfs.FS) {
	t.Helper()
	if got.Steps() != want.Steps() || got.Loose() != want.Loose() || got.Used() != want.Used() || got.Dead() != want.Dead() {
		t.Errorf("%s: %d steps, %d loose, %d used, dead %v; wanted %d, %d, %d, %v", what,
			got.Steps(), got.Loose(), got.Used(), got.Dead(), want.Steps(), want.Loose(), want.Used(), want.Dead())
		return
	}
	for bits := range uint64(1) << min(want.Loose(), 4) {
		g, w := got.Clone(), want.Clone()
		g.Crash(bits, 3)
		w.Crash(bits, 3)
		g.Up()
		w.Up()
		if a, b := told(t, g, ""), told(t, w, ""); a != b {
			t.Errorf("%s: behind a fall that keeps %b there stands %.300q, wanted %.300q", what, bits, a, b)
		}
	}
	if !got.Dead() {
		if a, b := told(t, got, ""), told(t, want, ""); a != b {
			t.Errorf("%s: there stands %.300q, wanted %.300q", what, a, b)
		}
	}
}

// call makes ready to do something there, and is that.
type call func(t testing.TB, f *vfs.FS) func() api.Errno

// opens is Open as a call that is to be held against others; puts, adds, drops and dropsLoose are those of a DB that was opened ahead.
func opens(t testing.TB, f *vfs.FS) func() api.Errno {
	return func() api.Errno {
		t.Helper()
		d, e := odb.Open(f)
		if (d != nil) != (e == api.OK) {
			t.Errorf("Open: %v, %d", d != nil, e)
		}
		return e
	}
}

func puts(raw string) call {
	return func(t testing.TB, f *vfs.FS) func() api.Errno {
		d := opened(t, f)
		return func() api.Errno {
			id, e := d.Put(raw)
			if (e != api.OK || id != sumOf(raw)) && (e == api.OK || id != "") {
				t.Errorf("Put(%.80q): %x, %d", raw, id, e)
			}
			return e
		}
	}
}

func adds(p string) call {
	return func(t testing.TB, f *vfs.FS) func() api.Errno {
		d := opened(t, f)
		return func() api.Errno {
			n, e := d.AddPack(p)
			if n != 0 && (e != api.OK || n != len(spotsOf(t, p))) {
				t.Errorf("AddPack: %d, %d", n, e)
			}
			return e
		}
	}
}

func drops(p string) call {
	return func(t testing.TB, f *vfs.FS) func() api.Errno {
		d := opened(t, f)
		return func() api.Errno { return d.DropPack(wholeOf(p)) }
	}
}

func dropsLoose(raws ...string) call {
	return func(t testing.TB, f *vfs.FS) func() api.Errno {
		d := opened(t, f)
		return func() api.Errno { return d.DropLoose(idsOf(raws)) }
	}
}

// wantSteps wants what a call did to be what these calls do, up to the first error, at each place where the power may fail, too.
func wantSteps(t *testing.T, what string, f *vfs.FS, do call, lines ...string) {
	t.Helper()
	for at := range len(lines) + 2 {
		got := f.Clone()
		run := do(t, got)
		want := got.Clone()
		fall := []api.Fall{{At: got.Steps() + at, Keep: 1<<62 - 1}}
		got.Plan(fall)
		want.Plan(fall)
		e := run()
		wantE := api.OK
		for _, s := range lines {
			if wantE == api.OK {
				wantE = line(want, s)
			}
		}
		fell := fmt.Sprintf("%s, with a fall at %d", what, at)
		wantErr(t, fell, e, wantE)
		wantSame(t, fell, got, want)
	}
}

func wantErr(t testing.TB, what string, got, want api.Errno) {
	t.Helper()
	if got != want {
		t.Errorf("%s: %d, wanted %d", what, got, want)
	}
}

// idsOf is the ids of objects, in their order.
func idsOf(raws []string) []string {
	var ids []string
	for _, raw := range raws {
		ids = append(ids, sumOf(raw))
	}
	return ids
}

// wantPut wants objects to be kept under their ids.
func wantPut(t testing.TB, d *odb.DB, raws ...string) {
	t.Helper()
	for _, raw := range raws {
		if id, e := d.Put(raw); id != sumOf(raw) || e != api.OK {
			t.Fatalf("Put(%.80q): %x, %d", raw, id, e)
		}
	}
}

// wantNoPut wants this error, no id beside it, and nothing to have been done.
func wantNoPut(t testing.TB, d *odb.DB, raw string, want api.Errno) {
	t.Helper()
	ahead := d.FS().Clone()
	if id, e := d.Put(raw); id != "" || e != want {
		t.Errorf("Put(%.80q): %x, %d; wanted %d", raw, id, e, want)
	}
	if ahead != nil {
		wantSame(t, fmt.Sprintf("behind Put(%.80q)", raw), d.FS(), ahead)
	}
}

// wantAdd wants a pack to be kept, with so many objects.
func wantAdd(t testing.TB, d *odb.DB, p string, want int) {
	t.Helper()
	if n, e := d.AddPack(p); n != want || e != api.OK {
		t.Fatalf("AddPack: %d, %d; wanted %d", n, e, want)
	}
}

// wantNoAdd wants this error, no number beside it, and nothing to have been done.
func wantNoAdd(t testing.TB, what string, d *odb.DB, p string, want api.Errno) {
	t.Helper()
	ahead := d.FS().Clone()
	ids, sums := d.IDs(), d.Packs()
	if n, e := d.AddPack(p); n != 0 || e != want {
		t.Errorf("%s: AddPack(%.80q): %d, %d; wanted %d", what, p, n, e, want)
	}
	if ahead != nil {
		wantSame(t, what+": behind AddPack", d.FS(), ahead)
	}
	if !slices.Equal(d.IDs(), ids) || !slices.Equal(d.Packs(), sums) {
		t.Errorf("%s: behind AddPack other objects or packs are there", what)
	}
}

// wantGet wants objects to be there, byte for byte.
func wantGet(t testing.TB, what string, d *odb.DB, raws ...string) {
	t.Helper()
	for _, raw := range raws {
		if s, e := d.Get(sumOf(raw)); s != raw || e != api.OK {
			t.Fatalf("%s: Get of %.80q: %.80q, %d", what, raw, s, e)
		}
		if !d.Has(sumOf(raw)) {
			t.Fatalf("%s: Has of %.80q: false", what, raw)
		}
	}
}

// wantNoGet wants this error, and no bytes beside it; and Has to say this.
func wantNoGet(t testing.TB, what string, d *odb.DB, id string, want api.Errno, has bool) {
	t.Helper()
	if s, e := d.Get(id); s != "" || e != want {
		t.Errorf("%s: Get(%.80q): %.80q, %d; wanted %d", what, id, s, e, want)
	}
	if d.Has(id) != has {
		t.Errorf("%s: Has(%.80q): %v", what, id, !has)
	}
}

// wantAll wants just these objects to stand alone, these packs, and these objects in all, of which each can be had.
func wantAll(t testing.TB, what string, d *odb.DB, alone, added, all []string) {
	t.Helper()
	wantList(t, what+": Loose", d.Loose(), idsOf(alone))
	var sums []string
	for _, p := range added {
		sums = append(sums, wholeOf(p))
	}
	wantList(t, what+": Packs", d.Packs(), sums)
	wantList(t, what+": IDs", d.IDs(), idsOf(all))
	wantGet(t, what, d, all...)
}

// wantList wants these texts, rising, each once.
func wantList(t testing.TB, what string, got, want []string) {
	t.Helper()
	slices.Sort(want)
	if want = slices.Compact(want); !slices.Equal(got, want) {
		t.Fatalf("%s: %d: %x, wanted %d: %x", what, len(got), got, len(want), want)
	}
}

// with is all of these lists in one.
func with(lists ...[]string) []string { return slices.Concat(lists...) }
