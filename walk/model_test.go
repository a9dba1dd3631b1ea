package walk_test

import (
	"fmt"
	"math/rand"
	"slices"
	"strings"
	"testing"

	"pollard/api"
	"pollard/object"
	"pollard/walk"
)

// model is the walk of the chapter word by word: round by round, each time with a look at all that was looked at.
func model(get walk.Getter, from []api.Link, stop func(id string) bool) ([]string, api.Link, api.Errno) {
	var looked []api.Link
	for round := from; len(round) > 0; {
		var behind []api.Link
		for _, l := range round {
			at := slices.IndexFunc(looked, func(x api.Link) bool { return x.ID == l.ID })
			if at >= 0 && looked[at].Kind == l.Kind || at < 0 && stop != nil && stop(l.ID) {
				continue
			}
			if at >= 0 {
				return nil, l, api.ErrKind
			}
			if len(looked) == api.MostWalk {
				return nil, l, api.ErrMuch
			}
			raw, e := get(l.ID)
			if e != api.OK {
				return nil, l, e
			}
			kind, _, e := object.Open(raw)
			if e != api.OK {
				return nil, l, e
			}
			if kind != l.Kind {
				return nil, l, api.ErrKind
			}
			named, e := object.Links(raw)
			if e != api.OK {
				return nil, l, e
			}
			looked = append(looked, l)
			behind = append(behind, named...)
		}
		round = behind
	}
	var ids []string
	for _, l := range looked {
		ids = append(ids, l.ID)
	}
	return ids, api.Link{}, api.OK
}

// drawn is a store of n objects by chance, which name one another mostly by their kinds; few of them are wrong.
func drawn(r *rand.Rand, n int) (store, []int) {
	kinds := make([]int, n)
	for i := range kinds {
		kinds[i] = 1 + r.Intn(4)
	}
	s := store{}
	for i, kind := range kinds {
		name := fmt.Sprint("o", i)
		switch r.Intn(8 * n) {
		case 0:
			continue
		case 1:
			s[name] = rawOf(wordOf(kind), "x")
			continue
		case 2:
			s[name] = "blob 1\x00"
			continue
		}
		s[name] = drawnRaw(r, kind, kinds)
	}
	return s, kinds
}

// drawnRaw is an object by chance.
func drawnRaw(r *rand.Rand, kind int, kinds []int) string {
	switch kind {
	case api.KindTree:
		var links []string
		for range r.Intn(5) {
			links = append(links, drawnLink(r, kinds, api.KindBlob, api.KindTree))
		}
		return folder(strings.Join(links, ", "))
	case api.KindCommit:
		tree := drawnLink(r, kinds, api.KindTree)
		var parents []string
		for range r.Intn(4) {
			parents = append(parents, strings.Fields(drawnLink(r, kinds, api.KindCommit))[1])
		}
		slices.Sort(parents)
		return commit(strings.Fields(tree)[1], strings.Join(slices.Compact(parents), " "))
	case api.KindTag:
		return tag(drawnLink(r, kinds, someKinds()...))
	}
	return blob(fmt.Sprint(r.Intn(9)))
}

// drawnLink is a link by chance of one of some kinds, nearly always to an object that is of it, if there is one.
func drawnLink(r *rand.Rand, kinds []int, of ...int) string {
	i := r.Intn(len(kinds))
	for range 40 {
		if slices.Contains(of, kinds[i]) {
			return fmt.Sprint(wordOf(kinds[i]), " o", i)
		}
		i = r.Intn(len(kinds))
	}
	return fmt.Sprint(wordOf(of[0]), " o", i)
}

// Promise 16.1: Closure and Whole against the model, over stores by chance, with stops that are none, tell some, or tell by turns.
func TestAgainstModel(t *testing.T) {
	errs := map[api.Errno]int{}
	for seed := range int64(6000) {
		r := rand.New(rand.NewSource(seed))
		s, kinds := drawn(r, 2+r.Intn(30))
		var from []api.Link
		for range r.Intn(4) {
			from = append(from, linkOf(drawnLink(r, kinds, someKinds()...)))
		}
		if len(from) > 0 && r.Intn(8) == 0 {
			from[0].Kind = r.Intn(6)
		}
		// Each walk has a stop of its own that tells by turns.
		stops := func() func(id string) bool {
			turn := 0
			switch seed % 3 {
			case 0:
				return nil
			case 1:
				return amongst(fmt.Sprintf("o%d o%d", seed%7, seed%11))
			}
			return func(id string) bool { turn++; return turn%(3+int(seed)%5) == 0 }
		}
		ids, at, e := walk.Closure(s.get, from, stops())
		wantIDs, wantAt, want := model(s.get, from, stops())
		if !slices.Equal(ids, wantIDs) || at != wantAt || e != want {
			t.Fatalf("%d: %q, %v, %d; want %q, %v, %d", seed, namesOf(ids), at, e, namesOf(wantIDs), wantAt, want)
		}
		errs[e]++
		for _, l := range from {
			if _, _, e := model(s.get, []api.Link{l}, nil); walk.Whole(s.get, l) != (e == api.OK) {
				t.Fatalf("%d: Whole of %v where the error is %d", seed, l, e)
			}
		}
	}
	for _, e := range []api.Errno{api.OK, api.ErrKind, api.ErrGone, api.ErrEnd, api.ErrBad} {
		if errs[e] < 20 {
			t.Errorf("%d came but %d times", e, errs[e])
		}
	}
}
