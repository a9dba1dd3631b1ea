package odb_test

import (
	"fmt"
	"maps"
	"math/rand"
	"slices"
	"testing"

	"pollard/api"
	"pollard/odb"
	"pollard/vfs"
)

// kept is what was told as kept, and not dropped since: the objects that stand alone, by their bytes, and the objects of packs, by the packs' bytes.
type kept struct {
	alone map[string]bool
	packs map[string][]string
}

func nothing() kept { return kept{alone: map[string]bool{}, packs: map[string][]string{}} }

func (k kept) clone() kept { return kept{alone: maps.Clone(k.alone), packs: maps.Clone(k.packs)} }

// packed tells whether an object is in a pack.
func (k kept) packed(raw string) bool {
	for _, raws := range k.packs {
		if slices.Contains(raws, raw) {
			return true
		}
	}
	return false
}

// deed is a call, told as its word and what it is about: an object, or a pack of these objects.
type deed struct {
	word string
	pack string
	raws []string
}

func (d deed) String() string { return fmt.Sprintf("%s %.60q", d.word, d.raws) }

// do does it, and notes what is told.
func (d deed) do(db *odb.DB, k kept) api.Errno {
	e := api.OK
	switch d.word {
	case "open":
		_, e = odb.Open(db.FS())
	case "put":
		if _, e = db.Put(d.raws[0]); e == api.OK && !k.packed(d.raws[0]) {
			k.alone[d.raws[0]] = true
		}
	case "add":
		if _, e = db.AddPack(d.pack); e == api.OK {
			k.packs[d.pack] = d.raws
		}
	case "drop":
		e = db.DropPack(wholeOf(d.pack))
		delete(k.packs, d.pack)
	case "dropLoose":
		e = db.DropLoose(idsOf(d.raws))
		for _, raw := range d.raws {
			delete(k.alone, raw)
		}
	default:
		panic(d.word)
	}
	return e
}

// wantKept wants what was told as kept to be there, and of the rest at most what the deed was about, all of it as it must be. What is there now is what is kept from now on.
func wantKept(t *testing.T, what string, db *odb.DB, k kept, d deed) {
	t.Helper()
	all, alone, sums := map[string]string{}, idsOf(d.raws), []string{}
	note := func(raws ...string) {
		for _, raw := range raws {
			all[sumOf(raw)] = raw
		}
	}
	note(d.raws...)
	for raw := range k.alone {
		note(raw)
		alone = append(alone, sumOf(raw))
		if !slices.Contains(db.Loose(), sumOf(raw)) {
			t.Fatalf("%s: %.80q stands no more alone", what, raw)
		}
	}
	for p, raws := range k.packs {
		note(raws...)
		sums = append(sums, wholeOf(p))
		if !slices.Contains(db.Packs(), wholeOf(p)) {
			t.Fatalf("%s: the pack of %.80q is not there", what, raws)
		}
	}
	for _, id := range db.IDs() {
		raw, known := all[id]
		if !known {
			t.Fatalf("%s: IDs tells of %x", what, id)
		}
		wantGet(t, what, db, raw)
		if slices.Contains(db.Loose(), id) {
			if !slices.Contains(alone, id) {
				t.Fatalf("%s: %.80q stands alone", what, raw)
			}
			k.alone[raw] = true
		}
	}
	for raw := range k.alone {
		wantGet(t, what, db, raw)
	}
	for _, raws := range k.packs {
		wantGet(t, what, db, raws...)
	}
	for _, sum := range db.Packs() {
		if d.pack != "" && sum == wholeOf(d.pack) {
			k.packs[d.pack] = d.raws
		} else if !slices.Contains(sums, sum) {
			t.Fatalf("%s: there is a pack %x", what, sum)
		}
	}
}

// ready is a deed that is ready to be done there: what it asks for was opened.
func (d deed) ready(t *testing.T, f *vfs.FS, k kept) func() api.Errno {
	t.Helper()
	if d.word == "open" {
		return func() api.Errno {
			_, e := odb.Open(f)
			return e
		}
	}
	db := opened(t, f)
	return func() api.Errno { return d.do(db, k) }
}

// falls calls a function with what stands there, with power again, and what was told as kept, behind each fall that can strike in a deed or just behind it: whatever is kept of what is not sure, and torn at each of these bytes.
func falls(t *testing.T, what string, f *vfs.FS, k kept, d deed, torn []int, see func(what string, f *vfs.FS, k kept)) {
	t.Helper()
	end := f.Clone()
	run := d.ready(t, end, k.clone())
	begin := end.Steps()
	wantErr(t, what+d.String(), run(), api.OK)
	const most = 4 // more things at once no deed here leaves behind that are not sure
	seen := map[string]bool{}
	for at := begin; at <= end.Steps(); at++ {
		for bits := range uint64(1) << most {
			for _, n := range torn {
				g, l := f.Clone(), k.clone()
				run := d.ready(t, g, l)
				g.Plan([]api.Fall{{At: at, Keep: bits, Torn: n}})
				e := run()
				fell := fmt.Sprintf("%s%v, fall at step %d that keeps %b, torn %d", what, d, at-begin, bits, n)
				want := api.ErrStill
				if at == end.Steps() {
					want = api.OK
				}
				wantErr(t, fell, e, want)
				if g.Loose() > most {
					t.Fatalf("%s: %d things are not sure", fell, g.Loose())
				}
				g.Crash(bits, n) // behind its last step, if none struck
				g.Up()
				g.Plan(nil)
				// All is sure now, so that what stands there is all that there is to see.
				if stands := fmt.Sprint(e, told(t, g, "")); !seen[stands] {
					seen[stands] = true
					see(fell, g, l)
				}
			}
		}
	}
}

// story is deeds of every kind, on objects that stand alone, in packs, and in both.
func story(t *testing.T) []deed {
	t.Helper()
	one, other, in := blobs(1, "one")[0], blobs(1, "other")[0], blobs(3, "packed")
	p, q := packOf(t, in...), packOf(t, one, other, in[2])
	return []deed{
		{word: "put", raws: []string{one}},
		{word: "add", pack: p, raws: in},
		{word: "put", raws: in[:1]},
		{word: "put", raws: []string{other}},
		{word: "add", pack: q, raws: []string{one, other, in[2]}},
		{word: "dropLoose", raws: []string{one, other}},
		{word: "drop", pack: p, raws: in},
		{word: "put", raws: in[1:2]},
		{word: "add", pack: p, raws: in},
		{word: "drop", pack: q, raws: []string{one, other, in[2]}},
		{word: "put", raws: []string{one}},
		{word: "add", pack: q, raws: []string{one, other, in[2]}},
		{word: "dropLoose", raws: []string{one, in[1], other}},
	}
}

// Promise 15.2: a fall at each step of Put, AddPack, DropPack and DropLoose, with whatever is kept of what is not sure: all objects that were told as kept are there, and everything can go on.
func TestFalls(t *testing.T) {
	f, k := empty(t), nothing()
	for _, d := range append([]deed{{word: "open"}}, story(t)...) {
		falls(t, "", f, k, d, []int{0, 1, 40}, func(what string, g *vfs.FS, l kept) {
			db := opened(t, g)
			wantKept(t, what, db, l, d)
			for _, next := range []deed{d, story(t)[1], story(t)[0], story(t)[4]} {
				if e := next.do(db, l); e != api.OK && (e != api.ErrGone || next.word != "drop") {
					t.Fatalf("%s; then %v: %d", what, next, e)
				}
				wantKept(t, what+"; then "+next.String(), db, l, next)
			}
			wantKept(t, what+"; and a second fall", opened(t, fallen(g)), l, deed{})
		})
		wantErr(t, d.String(), d.ready(t, f, k)(), api.OK)
	}
}

// Promise 15.2: a fall in a deed, one in standing up from it, and another one there.
func TestFallsInOpen(t *testing.T) {
	f, k, open := empty(t), nothing(), deed{word: "open"}
	for _, d := range append([]deed{open}, story(t)...) {
		falls(t, "", f, k, d, []int{0, 40}, func(what string, g *vfs.FS, l kept) {
			// What does not move in standing up is gone through no further.
			clean := g.Clone()
			opened(t, clean)
			if clean.Steps() == g.Steps()+1 {
				wantKept(t, what, opened(t, g), l, d)
				return
			}
			falls(t, what+"; ", g, l, open, []int{0, 40}, func(what string, h *vfs.FS, m kept) {
				again := h.Clone()
				wantKept(t, what, opened(t, h), m.clone(), d)
				again.Plan([]api.Fall{{At: again.Steps() + 2, Keep: 1, Torn: 3}})
				odb.Open(again)
				again.Crash(0, 0)
				again.Up()
				again.Plan(nil)
				wantKept(t, what+"; and again", opened(t, again), m, d)
			})
		})
		wantErr(t, d.String(), d.ready(t, f, k)(), api.OK)
	}
}

// Promise 15.2: falls while Open lays indexes anew, and takes away what is left.
func TestFallsInMending(t *testing.T) {
	alone, in, other := blobs(2, "alone"), blobs(3, "packed"), blobs(3, "other")
	p, q := packOf(t, in...), packOf(t, other...)
	f, k := holding(t, alone, p, q).FS(), nothing()
	for _, raw := range alone {
		k.alone[raw] = true
	}
	k.packs[p], k.packs[q] = in, other
	play(t, f, "write "+indexAt(p)+" spoilt", "remove "+indexAt(q), "write packs/incoming "+p, "write objects/incoming x", "write packs/a.index x")
	falls(t, "", f, k, deed{word: "open"}, []int{0, 1, 40}, func(what string, g *vfs.FS, l kept) {
		wantKept(t, what, opened(t, g), l, deed{})
		wantSteps(t, what+"; all is as it must be", g, opens, "syncdir objects")
	})
}

// Promise 15.2: a fall in keeping a pack for which there is room, but not for its index.
func TestFallsWithoutIndex(t *testing.T) {
	in := blobs(3, "packed")
	d := deed{word: "add", pack: packOf(t, in...), raws: in}
	f := holding(t, nil).FS()
	f.Room(len(d.pack))
	falls(t, "", f, nothing(), d, []int{0, 1, 40}, func(what string, g *vfs.FS, l kept) {
		wantKept(t, what, opened(t, g), l, d)
		g.Room(1 << 20)
		wantKept(t, what+"; with room", opened(t, g), l, d)
		wantKept(t, what+"; with room, and a fall", opened(t, fallen(g)), l, deed{})
	})
}

// Promise 15.2: one that goes on behind a fall, without being opened anew, tells nothing as kept that is not.
func TestFallsGoOn(t *testing.T) {
	in := blobs(3, "packed")
	p := packOf(t, in...)
	f := holding(t, nil, p).FS()
	for at := range 4 {
		for bits := range uint64(4) {
			g := f.Clone()
			d := opened(t, g)
			g.Plan([]api.Fall{{At: g.Steps() + at, Keep: bits}})
			wantErr(t, "DropPack", d.DropPack(wholeOf(p)), api.ErrStill)
			g.Up()
			wantAdd(t, d, p, len(in))
			wantGet(t, "added again", d, in...)
			wantAll(t, "added again, and opened anew", opened(t, fallen(g)), nil, []string{p}, in)
		}
	}
	d := opened(t, f)
	play(t, f, "write "+packAt(p)+" spoilt")
	wantAdd(t, d, p, len(in))
	wantAll(t, "a spoilt one, added again", opened(t, f), nil, []string{p}, in)
}

// chance is a deed by chance, on some objects and packs of them.
func chance(t *testing.T, r *rand.Rand, raws []string, added []deed) deed {
	t.Helper()
	word := []string{"put", "put", "put", "add", "add", "drop", "dropLoose", "open"}[r.Intn(8)]
	switch word {
	case "put":
		return deed{word: word, raws: []string{raws[r.Intn(len(raws))]}}
	case "add", "drop":
		d := added[r.Intn(len(added))]
		d.word = word
		return d
	case "dropLoose":
		i := r.Intn(len(raws))
		return deed{word: word, raws: raws[i:min(len(raws), i+r.Intn(5))]}
	}
	return deed{word: word}
}

// Promise 15.2: deeds, room and falls by chance, in standing up, too.
func TestFallsByChance(t *testing.T) {
	raws := with(someRaws(), blobs(10, "alike"))
	var added []deed
	for i := range len(raws) - 3 {
		l := raws[i : i+i%4]
		added = append(added, deed{pack: packOf(t, l...), raws: l})
	}
	r := rand.New(rand.NewSource(15))
	fell, done := 0, map[string]int{}
	for turn := range 300 {
		f, k := empty(t), nothing()
		db := opened(t, f)
		for i := range 30 {
			d := chance(t, r, raws, added)
			if r.Intn(3) == 0 {
				f.Plan([]api.Fall{{At: f.Steps() + r.Intn(9), Keep: r.Uint64(), Torn: r.Intn(200)}})
			}
			f.Room(1 << 22)
			if r.Intn(6) == 0 {
				f.Room(f.Used() + r.Intn(3000))
			}
			e := d.do(db, k)
			what := fmt.Sprintf("turn %d, call %d, %v: %d", turn, i, d, e)
			if e == api.OK {
				done[d.word]++
			} else if e != api.ErrStill && (e != api.ErrFull || d.word != "put" && d.word != "add") && (e != api.ErrGone || d.word != "drop") {
				t.Fatal(what)
			}
			if r.Intn(10) == 0 {
				f.Crash(r.Uint64(), r.Intn(200))
			}
			for f.Up() {
				fell++
				f.Plan(nil)
				if r.Intn(2) == 0 { // one in standing up
					f.Plan([]api.Fall{{At: f.Steps() + r.Intn(5), Keep: r.Uint64(), Torn: r.Intn(200)}})
				}
				next, e := odb.Open(f)
				if e != api.OK && e != api.ErrStill {
					t.Fatalf("%s; Open: %d", what, e)
				}
				db = next
			}
			wantKept(t, what, db, k, d)
		}
	}
	if fell < 1000 || done["put"] < 500 || done["add"] < 500 || done["drop"] < 100 || done["dropLoose"] < 300 {
		t.Error(fell, done)
	}
}
