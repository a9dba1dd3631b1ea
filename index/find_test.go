package index_test

import (
	"testing"

	"pollard/api"
	"pollard/index"
)

// beside is the id by one above (step 1) or below (step -1) another one; false, if there is none.
func beside(id string, step int) (string, bool) {
	b := []byte(id)
	for i := len(b) - 1; i >= 0; i-- {
		b[i] += byte(step)
		if step > 0 && b[i] != 0 || step < 0 && b[i] != 255 {
			return string(b), true
		}
	}
	return "", false
}

// Promise 11.1, Find, with the chapter's example: ids that are not there, next to each that is, ahead of all, between two, behind all.
func TestFindNone(t *testing.T) {
	for what, l := range someLists() {
		there := map[string]bool{}
		for _, s := range l {
			there[s.ID] = true
		}
		var away []string
		for _, s := range l {
			for _, step := range []int{1, -1} {
				if id, ok := beside(s.ID, step); ok {
					away = append(away, id)
				}
			}
			away = append(away, s.ID[:1]+idOf(0)[1:], s.ID[:1]+idOf(255)[1:], s.ID[1:]+"\x7f")
		}
		for c := range 256 {
			away = append(away, idOf(byte(c)), idFrom(byte(c)), idFrom(byte(c), 1))
		}
		x := newIndex(t, packSum(), l)
		for _, id := range away {
			if !there[id] {
				wantNone(t, what, x, id)
			}
		}
	}
}

// Promise 11.1, Find: just three ids, and those around them.
func TestFindAround(t *testing.T) {
	x := newIndex(t, packSum(), []api.Spot{{ID: idOf('m'), At: 20}, {ID: idOf('c'), At: 10}, {ID: idOf('m')[:31] + "n", At: 30}})
	for id, want := range map[string]int{idOf('c'): 10, idOf('m'): 20, idOf('m')[:31] + "n": 30} {
		if at, is := x.Find(id); !is || at != want {
			t.Errorf("Find(%q): %d, %v; wanted %d", id, at, is, want)
		}
	}
	for _, id := range []string{idOf(0), idOf('b'), idOf('c')[:31] + "b", idOf('c')[:31] + "d", idOf('h'), idOf('m')[:31] + "l", idOf('m')[:31] + "o", idOf('n'), idOf(255)} {
		wantNone(t, "three", x, id)
	}
}

// Promise 11.1, Find: texts that are no ids, such as begin like one that is there, too.
func TestFindNoIDs(t *testing.T) {
	for what, l := range someLists() {
		x := newIndex(t, packSum(), l)
		y, e := index.Load(x.Encode())
		if e != api.OK {
			t.Fatalf("%s: Load: %d", what, e)
		}
		for _, z := range []*index.Index{x, y} {
			for _, id := range noIDs() {
				wantNone(t, what, z, id)
			}
			for _, s := range l {
				for _, id := range []string{s.ID[:1], s.ID[:31], s.ID[1:], s.ID + "\x00", s.ID + s.ID[:1], "\x00" + s.ID, s.ID + s.ID} {
					wantNone(t, what, z, id)
				}
			}
		}
	}
}

// Promise 11.1, Find: a place of 0 is told apart from none.
func TestFindPlaceZero(t *testing.T) {
	x := newIndex(t, packSum(), []api.Spot{{ID: idOf('a'), At: 0}})
	if at, is := x.Find(idOf('a')); at != 0 || !is {
		t.Errorf("%d, %v", at, is)
	}
	wantNone(t, "place 0", x, idOf('b'))
}

func BenchmarkFind(b *testing.B) {
	l := manySpots(api.MostItems)
	x, _ := index.New(packSum(), l)
	for i := range b.N {
		if _, is := x.Find(l[i%len(l)].ID); !is {
			b.Fatal(i)
		}
	}
}
