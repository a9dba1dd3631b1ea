package refs_test

import (
	"fmt"
	"math/rand"
	"slices"
	"strings"
	"testing"

	"pollard/api"
	"pollard/refs"
)

// asks is what forward was asked, and what it answers.
type asks struct {
	may  bool
	were []string
}

func (a *asks) forward(from, to string) bool {
	a.were = append(a.were, from+to)
	return a.may
}

// showUpdates is updates, cut short.
func showUpdates(l []api.Update) string {
	var b strings.Builder
	for _, u := range l[:min(len(l), 4)] {
		fmt.Fprintf(&b, "{%.40q %.40q %.40q %v}", u.Name, u.Old, u.New, u.Force)
	}
	return fmt.Sprintf("%d: %s", len(l), b.String())
}

// wantApplied wants updates to make these refs, and forward to be asked of just these moves, one behind the other.
func wantApplied(t *testing.T, r api.Refs, l []api.Update, want api.Refs, moves ...string) {
	t.Helper()
	a := asks{may: true}
	if got, e := refs.Apply(r, l, a.forward); e != api.OK || !same(got, want) {
		t.Errorf("Apply(%s, %s): %s, %d; wanted %s", show(r), showUpdates(l), show(got), e, show(want))
	}
	if !slices.Equal(a.were, moves) {
		t.Errorf("Apply(%s, %s) asked %.200q; wanted %.200q", show(r), showUpdates(l), a.were, moves)
	}
}

// wantRefused wants updates that nothing goes forward by to be refused, with this error and the refs as they were.
func wantRefused(t *testing.T, r api.Refs, l []api.Update, want api.Errno) {
	t.Helper()
	a := asks{}
	if got, e := refs.Apply(r, l, a.forward); e != want || !same(got, r) {
		t.Errorf("Apply(%s, %s): %s, %d; wanted %d", show(r), showUpdates(l), show(got), e, want)
	}
}

// with is ordinary refs of which one is another, or a new one; it goes, if the id is empty.
func with(name, id string) api.Refs {
	r := ordinary()
	r.List = slices.DeleteFunc(r.List, func(x api.Ref) bool { return x.Name == name })
	if id != "" {
		r.List = append(r.List, api.Ref{Name: name, ID: id})
	}
	slices.SortFunc(r.List, func(x, y api.Ref) int { return strings.Compare(x.Name, y.Name) })
	return r
}

// coming is n new tags behind those of many.
func coming(n int) []api.Update {
	var l []api.Update
	for i := range n {
		l = append(l, api.Update{Name: fmt.Sprintf("tags/new%06d", i), New: idOf(byte(i))})
	}
	return l
}

// Promise 13.1, Apply: no updates.
func TestApplyNone(t *testing.T) {
	for _, r := range []api.Refs{named(), {Head: mainHead, List: []api.Ref{}}, ordinary(), {Head: "heads/none", List: ordinary().List}, many(api.MostRefs)} {
		wantApplied(t, r, nil, r)
		wantApplied(t, r, []api.Update{}, r)
	}
}

// Promise 13.1, Apply: refs that come, at each place; none of them asks for forward.
func TestApplyComes(t *testing.T) {
	for _, name := range []string{"heads/0", "heads/b", "heads/main2", "heads/zz", "tags/a", "tags/v10", "tags/v3", "heads/" + strings.Repeat("x", api.MostLabel)} {
		for _, id := range []string{idOf('n'), idOf('a'), idOf(0), idOf(0xff)} {
			wantApplied(t, ordinary(), []api.Update{{Name: name, New: id}}, with(name, id))
			wantApplied(t, ordinary(), []api.Update{{Name: name, New: id, Force: true}}, with(name, id))
			wantApplied(t, named(), []api.Update{{Name: name, New: id}}, api.Refs{Head: mainHead, List: []api.Ref{{Name: name, ID: id}}})
		}
	}
	wantApplied(t, named(), []api.Update{{Name: mainHead, New: idOf('a')}}, named(mainHead))
	wantApplied(t, named(), []api.Update{{Name: "tags/c", New: idOf('c')}, {Name: "heads/a", New: idOf('a')}, {Name: "heads/b", New: idOf('b')}}, named("heads/a", "heads/b", "tags/c"))
}

// Promise 13.1, Apply: refs that go, all of them but Head; branches and tags, and none of them asks for forward.
func TestApplyGoes(t *testing.T) {
	var l []api.Update
	for _, x := range ordinary().List {
		if x.Name == mainHead {
			continue
		}
		u := api.Update{Name: x.Name, Old: x.ID}
		wantApplied(t, ordinary(), []api.Update{u}, with(x.Name, ""))
		l = append(l, u)
		u.Force = true
		wantApplied(t, ordinary(), []api.Update{u}, with(x.Name, ""))
	}
	left := api.Refs{Head: mainHead, List: ordinary().List[1:2]}
	wantApplied(t, ordinary(), l, left)
	slices.Reverse(l)
	wantApplied(t, ordinary(), l, left)
	wantApplied(t, named("tags/a"), []api.Update{{Name: "tags/a", Old: idOf('a')}}, named())
}

// Promise 13.1, Apply: branches that move, for which forward is asked with where they stand and where they are to; by Force, tags too, nobody is asked.
func TestApplyMoves(t *testing.T) {
	for _, x := range ordinary().List {
		u := api.Update{Name: x.Name, Old: x.ID, New: idOf('n')}
		if strings.HasPrefix(x.Name, "heads/") {
			wantApplied(t, ordinary(), []api.Update{u}, with(x.Name, u.New), u.Old+u.New)
			wantRefused(t, ordinary(), []api.Update{u}, api.ErrForward)
		} else {
			wantRefused(t, ordinary(), []api.Update{u}, api.ErrFixed)
		}
		u.Force = true
		wantApplied(t, ordinary(), []api.Update{u}, with(x.Name, u.New))
	}
	want := ordinary()
	want.List[0].ID, want.List[2].ID = idOf('b'), idOf('a')
	wantApplied(t, ordinary(), []api.Update{{Name: "heads/z", Old: idOf('c'), New: idOf('a')}, {Name: "heads/a", Old: idOf('a'), New: idOf('b')}}, want, idOf('c')+idOf('a'), idOf('a')+idOf('b'))
}

// Promise 13.1, Apply: refs that stay; nothing more is asked of them, neither of tags nor of Head.
func TestApplyStays(t *testing.T) {
	var l []api.Update
	for _, x := range ordinary().List {
		l = append(l, api.Update{Name: x.Name, Old: x.ID, New: x.ID})
		wantApplied(t, ordinary(), l[len(l)-1:], ordinary())
	}
	wantApplied(t, ordinary(), l, ordinary())
}

// Promise 13.1, Apply: where it goes, was not there, stays, or Force is set, an update is done although forward would say no, or is none at all.
func TestApplyUnasked(t *testing.T) {
	a := asks{}
	forwards := []func(from, to string) bool{a.forward, nil, func(from, to string) bool { panic("asked") }}
	for _, forward := range forwards {
		for _, x := range ordinary().List {
			for _, u := range []api.Update{{Old: x.ID}, {Old: x.ID, New: x.ID}, {Old: x.ID, New: idOf('n'), Force: true}} {
				u.Name = x.Name
				if u.New == "" && x.Name == mainHead {
					continue
				}
				if got, e := refs.Apply(ordinary(), []api.Update{u}, forward); e != api.OK || !same(got, with(u.Name, u.New)) {
					t.Error(showUpdates([]api.Update{u}), show(got), e)
				}
			}
		}
		for _, name := range []string{"heads/n", "tags/n"} {
			if got, e := refs.Apply(ordinary(), []api.Update{{Name: name, New: idOf('n')}}, forward); e != api.OK || !same(got, with(name, idOf('n'))) {
				t.Error(name, show(got), e)
			}
		}
	}
	if len(a.were) != 0 {
		t.Errorf("asked %q", a.were)
	}
}

// Promise 13.1, Apply: just MostUpdates, and more, which comes ahead of refs that may not be and of whatever is wrong with an update.
func TestApplyMost(t *testing.T) {
	for _, n := range []int{api.MostUpdates - 1, api.MostUpdates} {
		want := api.Refs{Head: mainHead}
		for _, u := range coming(n) {
			want.List = append(want.List, api.Ref{Name: u.Name, ID: u.New})
		}
		wantApplied(t, named(), coming(n), want)
	}
	for _, n := range []int{api.MostUpdates + 1, api.MostUpdates + 2, 5000} {
		var stays []api.Update
		for range n {
			stays = append(stays, api.Update{Name: mainHead, Old: idOf('b'), New: idOf('b')})
		}
		for _, l := range [][]api.Update{coming(n), make([]api.Update, n), stays} {
			for _, r := range []api.Refs{named(), ordinary(), {}, {Head: "what"}, named("what"), named("tags/a", "heads/a"), {Head: mainHead, List: make([]api.Ref, 1)}} {
				wantRefused(t, r, l, api.ErrMuch)
			}
		}
	}
}

// Promise 13.1, Apply: refs that Check refuses, ahead of whatever is wrong with an update.
func TestApplyCheck(t *testing.T) {
	bad := named("heads/a", "tags/a")
	bad.List[1].ID = "i"
	for _, r := range []api.Refs{{}, {Head: "tags/a"}, many(api.MostRefs + 1), named("what"), bad, named("tags/a", "heads/a"), named("tags/a", "tags/a")} {
		want := refs.Check(r)
		if want == api.OK || want != slowCheck(r) {
			t.Fatal(show(r), want)
		}
		for _, l := range [][]api.Update{nil, {{}}, {{Name: "heads/n", New: idOf('n')}}, {{Name: "what"}}, {{Name: "tags/a", Old: "i"}}, {{Name: "heads/a", New: "i"}}, coming(api.MostUpdates)} {
			wantRefused(t, r, l, want)
		}
	}
}

// Promise 13.1, Apply: a name that came ahead, whatever was done by it.
func TestApplyTwice(t *testing.T) {
	b, n := idOf('b'), idOf('n')
	for _, first := range []api.Update{{Old: b, New: b}, {Old: b, New: n, Force: true}} {
		for _, second := range []api.Update{{}, {Old: b, New: b}, {Old: n, New: n}, {Old: n, New: b, Force: true}, {Old: n}, {New: n}, {New: "i"}} {
			first.Name, second.Name = mainHead, mainHead
			wantRefused(t, ordinary(), []api.Update{first, second}, api.ErrAsk)
			wantRefused(t, ordinary(), []api.Update{first, {Name: "tags/n", New: n}, second}, api.ErrAsk)
		}
	}
	wantRefused(t, ordinary(), []api.Update{{Name: "tags/v1", Old: idOf('d')}, {Name: "tags/v1", New: n}}, api.ErrAsk)
	wantRefused(t, ordinary(), []api.Update{{Name: "tags/n", New: n}, {Name: "tags/n", Old: n}}, api.ErrAsk)
	// Another folder's, or a longer one, is another name.
	l := []api.Update{{Name: "heads/n", New: idOf('a')}, {Name: "heads/nn", New: idOf('b')}, {Name: "tags/n", New: idOf('c')}}
	wantApplied(t, named(), l, named("heads/n", "heads/nn", "tags/n"))
}

// Promise 13.1, Apply: names that may not be, and what is asked for and may not be.
func TestApplyAsk(t *testing.T) {
	for _, name := range noRefNames() {
		for _, force := range []bool{false, true} {
			wantRefused(t, ordinary(), []api.Update{{Name: name, New: idOf('n'), Force: force}}, api.ErrLabel)
			wantRefused(t, ordinary(), []api.Update{{Name: name, Old: idOf('a'), Force: force}}, api.ErrLabel)
		}
	}
	for _, name := range []string{mainHead, "heads/n", "tags/v1", "tags/n"} {
		for _, old := range []string{"", refs.Get(ordinary(), name), idOf('x')} {
			for _, id := range noIDs() {
				if id == "" && old != "" {
					continue
				}
				for _, force := range []bool{false, true} {
					wantRefused(t, ordinary(), []api.Update{{Name: name, Old: old, New: id, Force: force}}, api.ErrAsk)
				}
			}
		}
	}
}

// Promise 13.1, Apply: Old is another one; it is empty, and the ref is there; it is said, and the ref is not there. Force does not help.
func TestApplyStale(t *testing.T) {
	for _, force := range []bool{false, true} {
		for _, x := range ordinary().List {
			for _, old := range append(noIDs(), idOf('n'), x.ID[:31]+"n", x.ID[:31], x.ID+"n") {
				wantRefused(t, ordinary(), []api.Update{{Name: x.Name, Old: old, New: x.ID, Force: force}}, api.ErrStale)
				wantRefused(t, ordinary(), []api.Update{{Name: x.Name, Old: old, New: idOf('n'), Force: force}}, api.ErrStale)
				if old != "" {
					wantRefused(t, ordinary(), []api.Update{{Name: x.Name, Old: old, Force: force}}, api.ErrStale)
				}
			}
		}
		for _, name := range []string{"heads/n", "tags/n", "heads/v1", "tags/main"} {
			for _, old := range []string{idOf('n'), idOf('a'), idOf('x'), "i"} {
				for _, id := range []string{"", idOf('n'), idOf('a')} {
					wantRefused(t, ordinary(), []api.Update{{Name: name, Old: old, New: id, Force: force}}, api.ErrStale)
				}
			}
		}
	}
	// The chapter's first example: the second one is stale, and none is done.
	wantRefused(t, ordinary(), []api.Update{{Name: "tags/n", New: idOf('n')}, {Name: "heads/a", Old: idOf('x'), New: idOf('n')}}, api.ErrStale)
}

// Promise 13.1, Apply: Head does not go, not by Force either; another branch does, and Head where another one is worked on.
func TestApplyHead(t *testing.T) {
	for _, x := range ordinary().List[:3] {
		r := ordinary()
		r.Head = x.Name
		wantRefused(t, r, []api.Update{{Name: x.Name, Old: x.ID}}, api.ErrHead)
		wantRefused(t, r, []api.Update{{Name: x.Name, Old: x.ID, Force: true}}, api.ErrHead)
		r.Head = "heads/none"
		want := with(x.Name, "")
		want.Head = r.Head
		wantApplied(t, r, []api.Update{{Name: x.Name, Old: x.ID}}, want)
	}
	wantRefused(t, named("tags/a"), []api.Update{{Name: mainHead, Old: idOf('a')}}, api.ErrStale)
	wantRefused(t, named("tags/a"), []api.Update{{Name: mainHead}}, api.ErrAsk)
}

// Promise 13.1, Apply: a forward that is none, or panics, lets no branch move (rule R1).
func TestApplyForward(t *testing.T) {
	l := []api.Update{{Name: "tags/n", New: idOf('n')}, {Name: mainHead, Old: idOf('b'), New: idOf('n')}}
	for _, forward := range []func(from, to string) bool{nil, func(from, to string) bool { panic(from) }, func(from, to string) bool { return from == to[:0] }} {
		if got, e := refs.Apply(ordinary(), l, forward); e != api.ErrForward || !same(got, ordinary()) {
			t.Error(show(got), e)
		}
	}
	if got, e := refs.Apply(ordinary(), l, func(from, to string) bool { return from == idOf('b') && to == idOf('n') }); e != api.OK || refs.Get(got, mainHead) != idOf('n') {
		t.Error(show(got), e)
	}
}

// Promise 13.1, Apply: more than MostRefs at last; one that goes makes room, also behind those that come.
func TestApplyRoom(t *testing.T) {
	full := many(api.MostRefs)
	one := coming(1)
	goes := api.Update{Name: full.List[7].Name, Old: full.List[7].ID}
	wantRefused(t, full, one, api.ErrMuch)
	wantRefused(t, many(api.MostRefs-1), coming(2), api.ErrMuch)
	wantRefused(t, many(1), coming(api.MostUpdates), api.ErrMuch)
	wantRefused(t, full, append(coming(2), goes), api.ErrMuch)
	want := copied(full)
	want.List = append(slices.Delete(want.List, 7, 8), api.Ref{Name: one[0].Name, ID: one[0].New})
	wantApplied(t, full, []api.Update{goes, one[0]}, want)
	wantApplied(t, full, []api.Update{one[0], goes}, want)
	want = many(api.MostRefs - 1)
	want.List = append(want.List, api.Ref{Name: one[0].Name, ID: one[0].New})
	wantApplied(t, many(api.MostRefs-1), one, want)
	// All others may still stay, or move by Force.
	want = copied(full)
	var l []api.Update
	for i, x := range full.List {
		want.List[i].ID = idOf('n')
		l = append(l, api.Update{Name: x.Name, Old: x.ID, New: idOf('n'), Force: true})
	}
	wantApplied(t, full, l, want)
	// What is wrong with an update comes ahead of that, wherever it stands.
	wantRefused(t, full, append(coming(200), api.Update{Name: goes.Name, Old: idOf('x')}), api.ErrStale)
}

// wrong is updates, the last of which has the errors; it is refused with the first of them.
type wrong struct {
	l    []api.Update
	want api.Errno
}

// wrongs have one error each: of ordinary refs by which nothing goes forward.
func wrongs() []wrong {
	b, d, n := idOf('b'), idOf('d'), idOf('n')
	return []wrong{
		{[]api.Update{{Name: "heads/z", Old: idOf('c'), New: idOf('c')}, {Name: "heads/z", Old: idOf('c'), New: idOf('c')}}, api.ErrAsk},
		{[]api.Update{{Name: "what", New: n}}, api.ErrLabel},
		{[]api.Update{{Name: "heads/n", New: "i"}}, api.ErrAsk},
		{[]api.Update{{Name: "heads/m"}}, api.ErrAsk},
		{[]api.Update{{Name: "tags/v2", Old: n, New: idOf('e')}}, api.ErrStale},
		{[]api.Update{{Name: mainHead, Old: b}}, api.ErrHead},
		{[]api.Update{{Name: "tags/v1", Old: d, New: n}}, api.ErrFixed},
		{[]api.Update{{Name: "heads/a", Old: idOf('a'), New: n}}, api.ErrForward},
	}
}

// Promise 13.1, Apply: where two are wrong in one update, the one that is named first.
func TestApplyFirst(t *testing.T) {
	b, d, n := idOf('b'), idOf('d'), idOf('n')
	moved := api.Update{Name: mainHead, Old: b, New: n, Force: true}
	tagged := api.Update{Name: "tags/v1", Old: d, New: n, Force: true}
	for _, w := range []wrong{
		// Its name came ahead, and: New is no id, both are empty, stale, Head would go, a tag, not forward.
		{[]api.Update{moved, {Name: mainHead, Old: n, New: "i"}}, api.ErrAsk},
		{[]api.Update{moved, {Name: mainHead}}, api.ErrAsk},
		{[]api.Update{moved, {Name: mainHead, Old: b, New: n}}, api.ErrAsk},
		{[]api.Update{moved, {Name: mainHead, Old: n}}, api.ErrAsk},
		{[]api.Update{tagged, {Name: "tags/v1", Old: n, New: d}}, api.ErrAsk},
		{[]api.Update{moved, {Name: mainHead, Old: n, New: b}}, api.ErrAsk},
		// A name that may not be, and: New is no id, both are empty, stale.
		{[]api.Update{{Name: "what", New: "i"}}, api.ErrLabel},
		{[]api.Update{{Name: "what"}}, api.ErrLabel},
		{[]api.Update{{}}, api.ErrLabel},
		{[]api.Update{{Name: "what", Old: n, New: d}}, api.ErrLabel},
		// New is no id, or both are empty, and: stale, a tag, not forward.
		{[]api.Update{{Name: mainHead, Old: n, New: "i"}}, api.ErrAsk},
		{[]api.Update{{Name: mainHead}}, api.ErrAsk},
		{[]api.Update{{Name: "tags/v1", Old: d, New: "i"}}, api.ErrAsk},
		{[]api.Update{{Name: mainHead, Old: b, New: "i"}}, api.ErrAsk},
		// Stale, and: Head would go, a tag, not forward.
		{[]api.Update{{Name: mainHead, Old: n}}, api.ErrStale},
		{[]api.Update{{Name: "tags/v1", Old: n, New: b}}, api.ErrStale},
		{[]api.Update{{Name: mainHead, Old: d, New: n}}, api.ErrStale},
		// A tag, and not forward.
		{[]api.Update{{Name: "tags/v1", Old: d, New: n}}, api.ErrFixed},
	} {
		a := asks{}
		if got, e := refs.Apply(ordinary(), w.l, a.forward); e != w.want || !same(got, ordinary()) || len(a.were) != 0 {
			t.Errorf("%s: %s, %d, asked %q; wanted %d", showUpdates(w.l), show(got), e, a.were, w.want)
		}
	}
}

// Promise 13.1, Apply: where two updates are wrong, the one that comes first, whichever errors they have.
func TestApplyFirstUpdate(t *testing.T) {
	for i, one := range wrongs() {
		wantRefused(t, ordinary(), one.l, one.want)
		wantRefused(t, ordinary(), append([]api.Update{{Name: "heads/0", New: idOf('n')}, {Name: "heads/y", New: idOf('n')}}, one.l...), one.want)
		wantRefused(t, ordinary(), append(slices.Clone(one.l), api.Update{Name: "heads/y", New: idOf('n')}), one.want)
		for j, other := range wrongs() {
			if i != j {
				wantRefused(t, ordinary(), slices.Concat(one.l, other.l), one.want)
			}
		}
	}
}

// Promise 13.1, Apply: forward is asked of nothing behind an error.
func TestApplyStops(t *testing.T) {
	move := api.Update{Name: "heads/a", Old: idOf('a'), New: idOf('n')}
	for _, w := range wrongs()[:7] {
		for _, may := range []bool{false, true} {
			a := asks{may: may}
			if _, e := refs.Apply(ordinary(), append(w.l, move), a.forward); e != w.want || len(a.were) != 0 {
				t.Errorf("%s: %d, asked %q", showUpdates(w.l), e, a.were)
			}
		}
	}
	a := asks{}
	refs.Apply(ordinary(), []api.Update{move, {Name: mainHead, Old: idOf('b'), New: idOf('n')}}, a.forward)
	if !slices.Equal(a.were, []string{idOf('a') + idOf('n')}) {
		t.Errorf("asked %q", a.were)
	}
}

// slowUpdate follows the chapter's words of one update one by one.
func slowUpdate(head string, stands map[string]string, ahead map[string]bool, u api.Update, forward func(from, to string) bool) api.Errno {
	if ahead[u.Name] {
		return api.ErrAsk
	}
	if !refName.MatchString(u.Name) {
		return api.ErrLabel
	}
	if len(u.New) != 32 && len(u.New) != 0 || u.Old+u.New == "" {
		return api.ErrAsk
	}
	if stands[u.Name] != u.Old {
		return api.ErrStale
	}
	goes := u.New == ""
	if goes && u.Name == head {
		return api.ErrHead
	}
	_, was := stands[u.Name]
	if goes || !was || stands[u.Name] == u.New || u.Force {
		return api.OK
	}
	if !headName.MatchString(u.Name) {
		return api.ErrFixed
	}
	if !forward(stands[u.Name], u.New) {
		return api.ErrForward
	}
	return api.OK
}

// slowApply follows the chapter's words one by one.
func slowApply(r api.Refs, l []api.Update, forward func(from, to string) bool) (api.Refs, api.Errno) {
	if len(l) > 256 {
		return r, api.ErrMuch
	}
	if e := slowCheck(r); e != api.OK {
		return r, e
	}
	stands, ahead := map[string]string{}, map[string]bool{}
	for _, x := range r.List {
		stands[x.Name] = x.ID
	}
	for _, u := range l {
		if e := slowUpdate(r.Head, stands, ahead, u, forward); e != api.OK {
			return r, e
		}
		ahead[u.Name] = true
		stands[u.Name] = u.New
		if u.New == "" {
			delete(stands, u.Name)
		}
	}
	if len(stands) > 256 {
		return r, api.ErrMuch
	}
	now := api.Refs{Head: r.Head}
	for name, id := range stands {
		now.List = append(now.List, api.Ref{Name: name, ID: id})
	}
	slices.SortFunc(now.List, func(x, y api.Ref) int { return strings.Compare(x.Name, y.Name) })
	return now, api.OK
}

// wantSlowApply wants what the slow one answers, with forward asked of the same; what was handed in stays as it was.
func wantSlowApply(t *testing.T, r api.Refs, l []api.Update, may bool) {
	t.Helper()
	wasRefs, wasList := copied(r), slices.Clone(l)
	a, b := asks{may: may}, asks{may: may}
	want, e := slowApply(r, l, a.forward)
	got, f := refs.Apply(r, l, b.forward)
	if f != e || !same(got, want) || !slices.Equal(a.were, b.were) {
		t.Fatalf("Apply(%s, %s, %v): %s, %d, asked %q; wanted %s, %d, asked %q", show(r), showUpdates(l), may, show(got), f, b.were, show(want), e, a.were)
	}
	if !same(r, wasRefs) || !slices.Equal(l, wasList) {
		t.Fatalf("Apply changed what was handed in: %s, %s", show(r), showUpdates(l))
	}
}

// anyUpdates are updates of ordinary refs, right and wrong ones.
func anyUpdates() []api.Update {
	var all []api.Update
	for _, name := range []string{mainHead, "heads/a", "heads/n", "tags/v1", "tags/n", "what"} {
		for _, old := range []string{"", refs.Get(ordinary(), name), idOf('x')} {
			for _, id := range []string{"", refs.Get(ordinary(), name), idOf('n'), "i"} {
				all = append(all, api.Update{Name: name, Old: old, New: id}, api.Update{Name: name, Old: old, New: id, Force: true})
			}
		}
	}
	return all
}

// Promise 13.1, Apply: each two updates, and rows of them by chance, against a slow one.
func TestApplyAny(t *testing.T) {
	all := anyUpdates()
	for _, may := range []bool{false, true} {
		for _, x := range all {
			wantSlowApply(t, ordinary(), []api.Update{x}, may)
			for _, y := range all {
				wantSlowApply(t, ordinary(), []api.Update{x, y}, may)
			}
		}
	}
	chance := rand.New(rand.NewSource(13))
	for range 300 {
		r := many(api.MostRefs - chance.Intn(3))
		var l []api.Update
		for _, i := range chance.Perm(len(r.List) + 6)[:chance.Intn(12)] {
			u := api.Update{Name: fmt.Sprintf("tags/%06d", i), New: idOf('n')}
			if i < len(r.List) {
				u.Old, u.New, u.Force = r.List[i].ID, []string{"", idOf('n')}[chance.Intn(2)], true
			}
			l = append(l, u)
		}
		wantSlowApply(t, r, l, false)
	}
}

// Rule R2: what is handed in stays as it is, also behind the lists' ends, and what comes out is the caller's own, with an error, too.
func TestApplyKeep(t *testing.T) {
	room := append(ordinary().List, api.Ref{Name: "x"}, api.Ref{Name: "y"})
	was := slices.Clone(room)
	r := api.Refs{Head: mainHead, List: room[:5]}
	l := []api.Update{{Name: "heads/0", New: idOf('n')}, {Name: "heads/a", Old: idOf('a')}, {Name: "tags/v2", Old: idOf('e'), New: idOf('n'), Force: true}, {Name: "tags/v9", New: idOf('n')}}
	for n := range len(l) + 2 {
		updates := l[:min(n, len(l))]
		if n > len(l) {
			updates = append(slices.Clone(l), api.Update{Name: mainHead, Old: idOf('b')})
		}
		asked := slices.Clone(updates)
		got, e := refs.Apply(r, updates, nil)
		if (e != api.OK) != (n > len(l)) || !slices.Equal(room, was) || !slices.Equal(updates, asked) {
			t.Fatal(n, e, show(r))
		}
		before := copied(got)
		got.List[1].ID = "later"
		_ = append(got.List, api.Ref{Name: "z"}, api.Ref{Name: "z"})
		if !slices.Equal(room, was) {
			t.Fatal(n, show(r))
		}
		got, _ = refs.Apply(r, updates, nil)
		clear(room)
		if !same(got, before) {
			t.Error(n, show(got))
		}
		copy(room, was)
	}
}

// Rule R2: refs and updates that forward changes while it is asked are still answered, and done, as they were.
func TestApplyTouched(t *testing.T) {
	for _, may := range []bool{false, true} {
		r := ordinary()
		l := []api.Update{{Name: "heads/a", Old: idOf('a'), New: idOf('n')}, {Name: "tags/v1", Old: idOf('d')}}
		want, wantErr := ordinary(), api.ErrForward
		if may {
			want, wantErr = with("heads/a", idOf('n')), api.OK
			want.List = slices.Delete(want.List, 3, 4)
		}
		got, e := refs.Apply(r, l, func(from, to string) bool {
			clear(r.List)
			clear(l)
			return may
		})
		if e != wantErr || !same(got, want) {
			t.Error(may, show(got), e)
		}
	}
}
