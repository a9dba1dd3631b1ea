package refs_test

import (
	"slices"
	"strings"
	"testing"

	"pollard/api"
	"pollard/refs"
)

// Promise 13.1, Check: refs that may be: none, one, several; Head need not be there.
func TestCheckMay(t *testing.T) {
	long := strings.Repeat("a", api.MostLabel)
	for _, r := range []api.Refs{
		named(), {Head: mainHead, List: []api.Ref{}}, named("heads/main"), named("tags/main"), ordinary(),
		{Head: "heads/none", List: ordinary().List}, {Head: "heads/" + long}, named("heads/"+long, "tags/"+long),
		named("heads/-", "heads/0", "heads/9", "heads/_", "heads/a", "heads/a-", "heads/aa", "heads/b", "tags/-", "tags/a"),
		{Head: "heads/-", List: []api.Ref{{Name: "heads/a", ID: idOf(0)}, {Name: "heads/b", ID: idOf(0)}, {Name: "tags/a", ID: idOf(0xff)}}},
	} {
		wantCheck(t, r, api.OK)
	}
}

// Promise 13.1, Check: just MostRefs, and more, which comes ahead of all else that is wrong.
func TestCheckMost(t *testing.T) {
	for _, n := range []int{api.MostRefs - 1, api.MostRefs} {
		wantCheck(t, many(n), api.OK)
	}
	for _, n := range []int{api.MostRefs + 1, api.MostRefs + 2, 5000} {
		wantUnmade(t, many(n), api.ErrMuch)
		wantUnmade(t, api.Refs{List: make([]api.Ref, n)}, api.ErrMuch)
		for _, f := range faults() {
			r := many(n)
			f.spoil(&r.List[1], r.List[0].Name)
			wantUnmade(t, r, api.ErrMuch)
			r.Head = "tags/a"
			wantUnmade(t, r, api.ErrMuch)
		}
	}
}

// Promise 13.1, Check: a Head that may be no branch's name, ahead of whatever is wrong in the refs.
func TestCheckHead(t *testing.T) {
	for _, head := range noHeads() {
		wantUnmade(t, api.Refs{Head: head}, api.ErrLabel)
		r := ordinary()
		r.Head = head
		wantUnmade(t, r, api.ErrLabel)
		for _, f := range faults() {
			r := ordinary()
			r.Head = head
			f.spoil(&r.List[1], r.List[0].Name)
			wantUnmade(t, r, api.ErrLabel)
		}
	}
	wantUnmade(t, api.Refs{}, api.ErrLabel)
}

// Promise 13.1, Check: names and ids that are none, in each ref.
func TestCheckRef(t *testing.T) {
	for i := range ordinary().List {
		for _, name := range noRefNames() {
			r := ordinary()
			r.List[i].Name = name
			wantUnmade(t, r, api.ErrLabel)
			r.List[i].ID = ""
			wantUnmade(t, r, api.ErrLabel)
		}
		for _, id := range noIDs() {
			r := ordinary()
			r.List[i].ID = id
			wantUnmade(t, r, api.ErrBad)
		}
	}
	for c := range 256 {
		r := named("heads/main")
		r.List[0].ID = idOf(byte(c))
		wantCheck(t, r, api.OK)
	}
}

// Promise 13.1, Check: names that do not rise, byte by byte, wherever they stand, and one twice.
func TestCheckOrder(t *testing.T) {
	for i := range ordinary().List {
		for j := range i {
			r := ordinary()
			r.List[i].Name, r.List[j].Name = r.List[j].Name, r.List[i].Name
			wantUnmade(t, r, api.ErrOrder)
			r = ordinary()
			r.List[i].Name = r.List[j].Name
			wantUnmade(t, r, api.ErrOrder)
		}
	}
	for _, l := range [][]string{{"heads/a", "heads/a"}, {"heads/b", "heads/a"}, {"tags/a", "heads/b"}, {"heads/a1", "heads/a"}, {"heads/_", "heads/9"}, {"heads/a", "heads/_"}, {"heads/0", "heads/-"}, {"heads/10", "heads/09"}, {"heads/9", "heads/10"}} {
		wantUnmade(t, named(l...), api.ErrOrder)
	}
	// One and the same object may have two names.
	r := named("heads/a", "tags/a")
	r.List[1].ID = r.List[0].ID
	wantCheck(t, r, api.OK)
}

// Promise 13.1, Check: of two faults the one in the ref that comes first is told; in one ref, the one that is named first.
func TestCheckFirst(t *testing.T) {
	for i := 1; i < len(ordinary().List); i++ {
		for a, one := range faults() {
			for _, other := range faults()[a:] {
				r := ordinary()
				other.spoil(&r.List[i], r.List[i-1].Name)
				one.spoil(&r.List[i], r.List[i-1].Name)
				wantUnmade(t, r, one.want)
			}
			for _, other := range faults() {
				for j := i + 1; j < len(ordinary().List); j++ {
					r := ordinary()
					other.spoil(&r.List[j], r.List[0].Name)
					one.spoil(&r.List[i], r.List[i-1].Name)
					wantUnmade(t, r, one.want)
				}
			}
		}
	}
	// In the first ref nothing comes ahead, so that no order can be wrong there.
	wantUnmade(t, api.Refs{Head: mainHead, List: []api.Ref{{Name: "what", ID: "i"}, {Name: "a", ID: "i"}}}, api.ErrLabel)
	wantUnmade(t, api.Refs{Head: mainHead, List: []api.Ref{{Name: "tags/a", ID: "i"}, {Name: "a", ID: "i"}}}, api.ErrBad)
	wantUnmade(t, api.Refs{Head: mainHead, List: []api.Ref{{Name: "tags/a", ID: idOf('i')}, {Name: "tags/a", ID: "i"}}}, api.ErrBad)
	wantUnmade(t, api.Refs{Head: mainHead, List: []api.Ref{{Name: "tags/b", ID: idOf('i')}, {Name: "Tags/a", ID: idOf('i')}}}, api.ErrLabel)
}

// Promise 13.1, Check: three refs of any names and ids, against a slow one.
func TestCheckAny(t *testing.T) {
	var all []api.Ref
	for _, name := range []string{"", "heads/a", "heads/b", "tags/a", "what"} {
		for _, id := range []string{"", idOf('i'), idOf('i') + "i"} {
			all = append(all, api.Ref{Name: name, ID: id})
		}
	}
	for _, head := range []string{mainHead, "heads/a", "tags/a", ""} {
		for _, x := range all {
			for _, y := range all {
				for _, z := range all {
					r := api.Refs{Head: head, List: []api.Ref{x, y, z}}
					wantCheck(t, r, slowCheck(r))
				}
			}
		}
	}
}

// Promise 13.1, Get: the first, the last, one between; one that is not there; no refs.
func TestGet(t *testing.T) {
	r := ordinary()
	for i, x := range r.List {
		wantGet(t, r, x.Name, idOf(byte('a'+i)))
		for _, name := range []string{x.Name + "0", x.Name[:len(x.Name)-1], strings.ToUpper(x.Name), " " + x.Name, x.Name + "\n", x.Name[1:]} {
			wantGet(t, r, name, "")
		}
	}
	for _, name := range append(noRefNames(), "heads/0", "heads/b", "heads/zz", "tags/0", "tags/v", "tags/v3", "tags/a", "tags/main") {
		wantGet(t, r, name, "")
		wantGet(t, named(), name, "")
		wantGet(t, api.Refs{}, name, "")
		wantGet(t, api.Refs{Head: name, List: []api.Ref{}}, name, "")
	}
	// That a branch is worked on does not say that it is there.
	wantGet(t, named("tags/main"), mainHead, "")
	most := many(api.MostRefs)
	for _, x := range most.List {
		wantGet(t, most, x.Name, x.ID)
	}
}

// Promise 13.1, Get: refs that may not be are gone through from the first to the last.
func TestGetAny(t *testing.T) {
	r := ordinary()
	slices.Reverse(r.List)
	r.Head = ""
	for i, x := range r.List {
		wantGet(t, r, x.Name, idOf(byte('e'-i)))
	}
	r.List = append(r.List, api.Ref{Name: "", ID: "none"}, api.Ref{Name: "tags/v1", ID: "later"}, api.Ref{Name: "what", ID: ""})
	wantGet(t, r, "", "none")
	wantGet(t, r, "tags/v1", idOf('d'))
	wantGet(t, r, "what", "")
	much := many(5000)
	for _, i := range []int{0, 1, api.MostRefs, 2500, 4999} {
		wantGet(t, much, much.List[i].Name, much.List[i].ID)
	}
}

// Promise 13.1, Switch: one that goes well, to each branch that is there, and to the one that is worked on.
func TestSwitch(t *testing.T) {
	for _, from := range []string{mainHead, "heads/a", "heads/none"} {
		r := ordinary()
		r.Head = from
		for _, head := range []string{"heads/a", "heads/main", "heads/z"} {
			wantSwitched(t, r, head)
		}
	}
	wantSwitched(t, named("heads/"+strings.Repeat("a", api.MostLabel)), "heads/"+strings.Repeat("a", api.MostLabel))
}

// Promise 13.1, Switch: a name that may be no branch's, whether or not there is such a ref.
func TestSwitchLabel(t *testing.T) {
	for _, head := range noHeads() {
		wantUnswitched(t, ordinary(), head, api.ErrLabel)
		wantUnswitched(t, named(), head, api.ErrLabel)
		wantUnswitched(t, api.Refs{}, head, api.ErrLabel)
		wantUnswitched(t, named(head), head, api.ErrLabel)
		wantUnswitched(t, api.Refs{Head: head, List: named(head).List}, head, api.ErrLabel)
	}
}

// Promise 13.1, Switch: a branch that is not there, also where it is the one that is worked on.
func TestSwitchGone(t *testing.T) {
	for _, head := range []string{"heads/x", "heads/v1", "heads/0", "heads/zz", "heads/" + strings.Repeat("a", api.MostLabel)} {
		wantUnswitched(t, ordinary(), head, api.ErrGone)
		wantUnswitched(t, named(), head, api.ErrGone)
		wantUnswitched(t, api.Refs{}, head, api.ErrGone)
		wantUnswitched(t, api.Refs{Head: head}, head, api.ErrGone)
		wantUnswitched(t, named("tags"+head[5:]), head, api.ErrGone)
	}
}

// Promise 13.1, Switch: what else may be wrong with the refs is not asked.
func TestSwitchAny(t *testing.T) {
	r := named("what", "heads/b", "heads/b", "heads/a", "")
	r.Head, r.List[4].ID = "none", ""
	wantSwitched(t, r, "heads/a")
	wantSwitched(t, r, "heads/b")
	wantUnswitched(t, r, "heads/c", api.ErrGone)
	much := many(5000)
	much.List[4999].Name = "heads/last"
	wantSwitched(t, much, "heads/last")
}

// Rule R2: what is handed in stays as it is, also behind the list's end, and what comes out is the caller's own.
func TestRefsKeep(t *testing.T) {
	room := named("heads/a", "heads/b", "x", "y").List
	was := slices.Clone(room)
	r := api.Refs{Head: mainHead, List: room[:2]}
	refs.Check(r)
	refs.Get(r, "heads/b")
	got, e := refs.Switch(r, "heads/b")
	if e != api.OK || !slices.Equal(room, was) || r.Head != mainHead {
		t.Fatal(e, room)
	}
	got.List[0].ID, got.List[1].Name = "", ""
	_ = append(got.List, api.Ref{Name: "z"})
	if !slices.Equal(room, was) {
		t.Error(room)
	}
	got, _ = refs.Switch(r, "heads/b")
	clear(room)
	if !slices.Equal(got.List, was[:2]) {
		t.Error(show(got))
	}
}
