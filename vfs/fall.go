package vfs

import (
	"cmp"
	"maps"
	"slices"

	"pollard/api"
)

// Dead tells whether it has no power.
func (f *FS) Dead() bool { return f == nil || f.dead }

// Crash takes the power now.
func (f *FS) Crash(keep uint64, torn int) {
	if f.Dead() {
		return
	}
	kept := func(i int) bool { return i < api.MostBits && keep>>i&1 == 1 }
	for i, a := range f.done {
		if kept(i) {
			f.sure.do(a)
		}
	}
	for i, number := range slices.Sorted(maps.Keys(f.unsure)) {
		x := f.unsure[number]
		if !kept(len(f.done) + i) {
			x.bytes = x.torn(torn)
			torn = 0 // of the first one alone some bytes are kept
		}
		x.sure = x.bytes
	}
	f.now = maps.Clone(f.sure)
	f.done = nil
	clear(f.unsure)
	f.count()
	f.dead = true
}

// torn is a file's first bytes as they are, so many, and behind these the sure ones from there on.
func (x *file) torn(n int) string {
	n = min(max(n, 0), len(x.bytes))
	return x.bytes[:n] + x.sure[min(n, len(x.sure)):]
}

// count finds out anew what all files under names use.
func (f *FS) count() {
	for _, x := range f.now {
		if x != nil {
			x.links = 0
		}
	}
	f.used = 0
	for _, x := range f.now {
		if x == nil {
			continue
		}
		if x.links == 0 {
			f.used += len(x.bytes)
		}
		x.links++
	}
}

// Up gives it power: whether it had none.
func (f *FS) Up() bool {
	if f == nil {
		return false
	}
	was := f.dead
	f.dead = false
	return was
}

// Plan lays when the power will fail.
func (f *FS) Plan(l []api.Fall) {
	if f == nil {
		return
	}
	f.plan = slices.Clone(l)
	slices.SortStableFunc(f.plan, func(a, b api.Fall) int { return cmp.Compare(a.At, b.At) })
}

// step counts a step that nothing hinders, unless the power fails ahead of it.
func (f *FS) step() api.Errno {
	for len(f.plan) > 0 && f.plan[0].At <= f.steps {
		fall := f.plan[0]
		f.plan = f.plan[1:]
		if fall.At == f.steps {
			f.Crash(fall.Keep, fall.Torn)
			return api.ErrStill
		}
	}
	f.steps++
	if f.now == nil { // nothing was done yet; New need not have made it
		f.now, f.sure, f.unsure = names{}, names{}, map[int]*file{}
	}
	return api.OK
}

// Steps is how many steps there were.
func (f *FS) Steps() int {
	if f == nil {
		return 0
	}
	return f.steps
}

// Loose is how many things are not sure.
func (f *FS) Loose() int {
	if f == nil {
		return 0
	}
	return len(f.done) + len(f.unsure)
}

// Clone is one of its own that is the same.
func (f *FS) Clone() *FS {
	if f == nil {
		return nil
	}
	files := map[int]*file{}
	twin := func(x *file) *file {
		if x == nil {
			return nil
		}
		if files[x.number] == nil {
			y := *x
			files[x.number] = &y
		}
		return files[x.number]
	}
	c := *f
	c.now, c.sure = twins(f.now, twin), twins(f.sure, twin)
	c.unsure = twins(f.unsure, twin)
	c.done = slices.Clone(f.done)
	for i := range c.done {
		c.done[i].file = twin(c.done[i].file)
	}
	c.plan = slices.Clone(f.plan)
	return &c
}

// twins is a map with other files in the place of its own.
func twins[M ~map[K]*file, K comparable](m M, twin func(*file) *file) M {
	n := maps.Clone(m)
	for k, x := range m {
		n[k] = twin(x)
	}
	return n
}
