package bases_test

import (
	"fmt"
	"math/rand"
	"slices"
	"strings"
	"testing"

	"pollard/api"
	"pollard/bases"
)

// modelLine is a line as the chapter says it: a commit, and all that its parents' lines have.
func modelLine(s store, id string) []string {
	c, e := bases.Commit(s.get, id)
	if e != api.OK {
		return nil
	}
	l := []string{id}
	for _, p := range c.Parents {
		l = append(l, modelLine(s, p)...)
	}
	slices.Sort(l)
	return slices.Compact(l)
}

// parentOfOne is whether an id is a parent of a commit among some.
func parentOfOne(s store, id string, some []string) bool {
	return slices.ContainsFunc(some, func(x string) bool {
		c, _ := bases.Commit(s.get, x)
		return slices.Contains(c.Parents, id)
	})
}

// modelBest is those of both lines that are not a parent of one in both.
func modelBest(s store, a, b string) []string {
	var both, best []string
	for _, id := range modelLine(s, a) {
		if slices.Contains(modelLine(s, b), id) {
			both = append(both, id)
		}
	}
	for _, id := range both {
		if !parentOfOne(s, id, both) {
			best = append(best, id)
		}
	}
	return best
}

// modelLog looks through all that is left for the one that comes next.
func modelLog(s store, id string) []string {
	left := modelLine(s, id)
	var log []string
	for len(left) > 0 {
		next := ""
		var greatest uint64
		for _, x := range left { // they rise, so the first one of a time has the least id
			c, _ := bases.Commit(s.get, x)
			if !parentOfOne(s, x, left) && (next == "" || c.Time > greatest) {
				next, greatest = x, c.Time
			}
		}
		log = append(log, next)
		left = slices.DeleteFunc(left, func(x string) bool { return x == next })
	}
	return log
}

// drawn is n commits by chance, whose names and times have nothing to do with who is whose parent; at times parents are near.
func drawn(r *rand.Rand, n int) (store, []string) {
	s := store{}
	var names []string
	times, near := 1+r.Intn(2*n), 1+r.Intn(n)
	for _, i := range r.Perm(n) {
		var parents []string
		for range r.Intn(api.MostParents + 1) {
			if len(names) > 0 {
				parents = append(parents, names[max(0, len(names)-1-r.Intn(near))])
			}
		}
		slices.Sort(parents)
		parents = slices.Compact(parents)
		r.Shuffle(len(parents), func(i, j int) { parents[i], parents[j] = parents[j], parents[i] })
		name := fmt.Sprint("c", i)
		s[name] = commit(uint64(r.Intn(times)), strings.Join(parents, " "))
		names = append(names, name)
	}
	return s, names
}

// Promise 17.1: Line, Behind, Best and Log against the model, over commits by chance.
func TestAgainstModel(t *testing.T) {
	several := 0
	for seed := range int64(5000) {
		r := rand.New(rand.NewSource(seed))
		s, names := drawn(r, 2+r.Intn(10))
		a, b := names[len(names)-1], names[len(names)-1-r.Intn(min(4, len(names)))]
		best := modelBest(s, idOf(a), idOf(b))
		wantLine(t, s, a, namesOf(modelLine(s, idOf(a))))
		wantBest(t, s, a, b, namesOf(best))
		wantLog(t, s, a, namesOf(modelLog(s, idOf(a))))
		wantLog(t, s, b, namesOf(modelLog(s, idOf(b))))
		if len(best) > 1 {
			several++
		}
		if t.Failed() {
			t.Fatal("seed", seed)
		}
	}
	if several < 50 {
		t.Error("several best ones but", several, "times")
	}
}

// Promise 17.1: the same with one commit gone or wrong: an error just if it is in the line.
func TestAgainstModelWrong(t *testing.T) {
	for seed := range int64(500) {
		r := rand.New(rand.NewSource(seed))
		s, names := drawn(r, 2+r.Intn(9))
		id, wrong := names[len(names)-1-r.Intn(2)], names[r.Intn(len(names))]
		line := modelLine(s, idOf(id))
		delete(s, wrong)
		want := api.ErrGone
		if r.Intn(2) == 0 {
			s[wrong], want = rawOf("tree", ""), api.ErrKind
		}
		if slices.Contains(line, idOf(wrong)) {
			wantNone(t, wrong, s.get, idOf(id), want)
			continue
		}
		wantLog(t, s, id, namesOf(modelLog(s, idOf(id))))
	}
}
