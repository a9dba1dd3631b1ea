package chain

import (
	"slices"
	"strings"

	"pollard/api"
	"pollard/delta"
	"pollard/object"
)

// Solve is the objects of items, in the items' order, and where they stand.
func Solve(l []api.Item) ([]string, []api.Spot, api.Errno) {
	if len(l) > api.MostItems {
		return nil, nil, api.ErrMuch
	}
	s := newSolver(l)
	queue := slices.Clone(s.waiting[noBase])
	for n := 0; n < len(queue); n++ {
		i := queue[n]
		if e := s.solve(i); e != api.OK {
			return nil, nil, e
		}
		queue = append(queue, s.waiting[s.spots[i].ID]...)
	}
	if len(queue) < len(l) {
		return nil, nil, api.ErrChain
	}
	return s.raws, s.spots, api.OK
}

// solver is items, and what is known of their objects so far.
type solver struct {
	items   []api.Item
	raws    []string
	spots   []api.Spot
	far     []int            // how many steps each stands from a whole one
	waiting map[string][]int // the numbers of the items of each base, in their order
	solved  map[string]int   // those of such as are solved, by their ids
}

// newSolver is items of which none is solved.
func newSolver(l []api.Item) *solver {
	s := &solver{
		items:   l,
		raws:    make([]string, len(l)),
		spots:   make([]api.Spot, len(l)),
		far:     make([]int, len(l)),
		waiting: map[string][]int{},
		solved:  map[string]int{},
	}
	for i, x := range l {
		s.waiting[x.Base] = append(s.waiting[x.Base], i)
	}
	return s
}

// solve solves an item that is whole, or whose base is solved.
func (s *solver) solve(i int) api.Errno {
	raw, e := s.rawOf(i)
	if e != api.OK {
		return e
	}
	if _, e := object.Links(raw); e != api.OK {
		return e
	}
	id := object.ID(raw)
	if _, there := s.solved[id]; there {
		return api.ErrTwin
	}
	s.solved[id] = i
	s.raws[i] = raw
	s.spots[i] = api.Spot{ID: id, At: s.items[i].At}
	return api.OK
}

// rawOf is an item's bytes: its own, or those that are made of its base's.
func (s *solver) rawOf(i int) (string, api.Errno) {
	x := s.items[i]
	if x.Base == noBase {
		return strings.Clone(x.Data), api.OK
	}
	base := s.solved[x.Base]
	s.far[i] = s.far[base] + 1
	if s.far[i] > api.MostChain {
		return "", api.ErrChain
	}
	return delta.Apply(s.raws[base], x.Data, mostRaw)
}
