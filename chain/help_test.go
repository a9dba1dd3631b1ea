package chain_test

import (
	"crypto/sha256"
	"fmt"
	"slices"
	"strings"
	"testing"

	"pollard/api"
	"pollard/chain"
	"pollard/code"
	"pollard/delta"
	"pollard/index"
	"pollard/object"
	"pollard/pack"
	"pollard/sample"
)

// sumOf is the sum by the library.
func sumOf(s string) string {
	b := sha256.Sum256([]byte(s))
	return string(b[:])
}

// blob is a blob's bytes.
func blob(body string) string { return fmt.Sprintf("blob %d\x00%s", len(body), body) }

// alike is n blobs that have nearly all bytes in common.
func alike(n int) []string {
	l := make([]string, n)
	for i := range l {
		l[i] = blob(fmt.Sprintf("number %06d of %s", i, strings.Repeat("blobs that are much alike ", 4)))
	}
	return l
}

// someRaws are objects of all kinds.
func someRaws() []string {
	root := blob("")
	folder := "tree " + fmt.Sprint(7+api.IDBytes) + "\x00file a\x00" + sumOf(root)
	body := "tree " + code.Hex(sumOf(folder)) + "\nauthor Ann\ntime 7\n\nwhy"
	commit := fmt.Sprintf("commit %d\x00%s", len(body), body)
	body = "tree " + code.Hex(sumOf(folder)) + "\nparent " + code.Hex(sumOf(commit)) + "\nauthor Ann\ntime 8\n\nwhy not"
	later := fmt.Sprintf("commit %d\x00%s", len(body), body)
	body = "object " + code.Hex(sumOf(later)) + "\nkind commit\nname v1\n\nhere"
	tag := fmt.Sprintf("tag %d\x00%s", len(body), body)
	l := []string{root, folder, "tree 0\x00", commit, later, tag, blob("\x00"), blob("blob 0\x00"), blob(sample.Text(5000)), blob(sample.Text(5000) + "more")}
	return append(l, alike(10)...)
}

// whole is the item of an object as it is.
func whole(raw string) api.Item { return api.Item{Data: raw} }

// made is the item of an object that is made of another one.
func made(base, raw string) api.Item { return api.Item{Base: sumOf(base), Data: delta.Make(base, raw)} }

// rowItems is items of objects, of which the first is whole and each other is made of the one ahead of it, however many there are.
func rowItems(raws []string) []api.Item {
	l := []api.Item{whole(raws[0])}
	for i := 1; i < len(raws); i++ {
		l = append(l, made(raws[i-1], raws[i]))
	}
	return l
}

// placed is items each at a place of its own, none of which is what counting would come to.
func placed(l []api.Item) []api.Item {
	l = slices.Clone(l)
	for i := range l {
		l[i].At = 1000 + 7*(i*i%11) + 100*i
	}
	return l
}

// spotsOf is where items stand, as objects by their ids.
func spotsOf(l []api.Item, raws []string) []api.Spot {
	var spots []api.Spot
	for i, raw := range raws {
		spots = append(spots, api.Spot{ID: sumOf(raw), At: l[i].At})
	}
	return spots
}

// packOf is the pack of items, and the items with the places at which they stand in it.
func packOf(t testing.TB, l []api.Item) (string, []api.Item) {
	t.Helper()
	p, e := pack.Build(l)
	if e != api.OK {
		t.Fatalf("Build of %s: %d", show(l), e)
	}
	l, e = pack.Scan(p)
	if e != api.OK {
		t.Fatalf("Scan: %d", e)
	}
	return p, l
}

// indexOf is an index of a pack.
func indexOf(t testing.TB, p string, spots []api.Spot) *index.Index {
	t.Helper()
	x, e := index.New(p[len(p)-api.IDBytes:], spots)
	if e != api.OK {
		t.Fatalf("New: %d", e)
	}
	return x
}

// knowing is the pack of items, and its index by which each stands under the id of the object that it is said to be.
func knowing(t testing.TB, l []api.Item, raws []string) (string, *index.Index) {
	t.Helper()
	p, l := packOf(t, l)
	return p, indexOf(t, p, spotsOf(l, raws))
}

// ring is two objects, and items of them, each made of the other one.
func ring() ([]string, []api.Item) {
	raws := alike(2)
	return raws, []api.Item{made(raws[1], raws[0]), made(raws[0], raws[1])}
}

// wrongDeltas are deltas that make nothing of a base, each with its error.
func wrongDeltas(base string) map[string]api.Errno {
	n, most := len(base), api.MostBody+64
	good := delta.Make(base, blob("good"))
	wrong := map[string]api.Errno{
		"":                               api.ErrEnd,
		"\x80":                           api.ErrEnd,
		strings.Repeat("\x80", 9):        api.ErrBad,
		nums(n):                          api.ErrEnd,
		nums(n+1, 3):                     api.ErrBad,
		nums(n-1, 3):                     api.ErrBad,
		nums(0, 0):                       api.ErrBad,
		nums(n, most+1):                  api.ErrMuch,
		nums(n, 1<<40):                   api.ErrMuch,
		nums(n, most):                    api.ErrEnd,
		nums(n, 3, 6):                    api.ErrBad,
		nums(n, 3, 5, n-2):               api.ErrBad,
		nums(n, 3, 4) + "ab":             api.ErrEnd,
		delta.Make(base+"x", base):       api.ErrBad,
		good + "x":                       api.ErrRest,
		delta.Make(base, base) + "\x00":  api.ErrRest,
		delta.Make(base, long(most+1)):   api.ErrMuch,
		delta.Make(base, long(most*3/2)): api.ErrMuch,
	}
	for i := range len(good) {
		wrong[good[:i]] = api.ErrEnd
	}
	return wrong
}

// long is a blob of so many bytes in all, of which many are more than it may have.
func long(n int) string {
	s := strings.Repeat("x", n)
	for len(s) > 0 && len(blob(s)) > n {
		s = s[:len(s)-1]
	}
	return blob(s)
}

// nums is numbers in their form.
func nums(l ...int) string {
	s := ""
	for _, n := range l {
		s += code.Num(uint64(n))
	}
	return s
}

// noObjects are texts that are no objects' bytes, each with the error of Links.
func noObjects() map[string]api.Errno {
	entry := "file a\x00" + sumOf("a")
	return map[string]api.Errno{
		"":                                   api.ErrBad,
		"x":                                  api.ErrBad,
		"blob 3":                             api.ErrBad,
		"blob\x00":                           api.ErrBad,
		"blop 3\x00abc":                      api.ErrKind,
		"blob 03\x00abc":                     api.ErrBad,
		"blob 3\x00ab":                       api.ErrEnd,
		"blob 3\x00abcd":                     api.ErrRest,
		"blob 262145\x00":                    api.ErrMuch,
		long(api.MostBody + 64):              api.ErrMuch,
		strings.Repeat("x", api.MostBody+64): api.ErrBad,
		"tree 1\x00x":                        api.ErrEnd,
		"tree 38\x00" + entry[:38]:           api.ErrEnd,
		"tree 39\x00mode" + entry[4:]:        api.ErrMode,
		"tree 39\x00file /" + entry[6:]:      api.ErrLabel,
		"tree 78\x00" + entry + entry:        api.ErrOrder,
		"commit 0\x00":                       api.ErrBad,
		"commit 5\x00tree\n":                 api.ErrBad,
		"tag 0\x00":                          api.ErrBad,
	}
}

// slowItems are items by the chapter's words.
func slowItems(raws []string, bases []int) []api.Item {
	var l []api.Item
	var far []int
	for i, raw := range raws {
		l, far = append(l, whole(raw)), append(far, 0)
		for b := range i {
			if len(bases) > i && bases[i] == b && far[b] < 12 {
				l[i], far[i] = made(raws[b], raw), far[b]+1
			}
		}
	}
	return l
}

// slowSolve solves by the chapter's words: it looks through all items for what each question asks.
func slowSolve(l []api.Item) ([]string, []api.Spot, api.Errno) {
	if len(l) > 2048 {
		return nil, nil, api.ErrMuch
	}
	var order []int
	raws, spots := make([]string, len(l)), make([]api.Spot, len(l))
	of := func(id string, ahead int) int {
		return slices.IndexFunc(order[:ahead], func(k int) bool { return spots[k].ID == id })
	}
	for i, x := range l {
		if x.Base == "" {
			order = append(order, i)
		}
	}
	for n := 0; n < len(order); n++ {
		i := order[n]
		raw, e := l[i].Data, api.OK
		if l[i].Base != "" {
			steps := 0
			for k := i; l[k].Base != ""; k = order[of(l[k].Base, n)] {
				steps++
			}
			if steps > 12 {
				return nil, nil, api.ErrChain
			}
			if raw, e = delta.Apply(raws[order[of(l[i].Base, n)]], raw, 1<<18+64); e != api.OK {
				return nil, nil, e
			}
		}
		if _, e := object.Links(raw); e != api.OK {
			return nil, nil, e
		}
		if of(sumOf(raw), n) >= 0 {
			return nil, nil, api.ErrTwin
		}
		raws[i], spots[i] = raw, api.Spot{ID: sumOf(raw), At: l[i].At}
		for k, x := range l {
			if x.Base == sumOf(raw) {
				order = append(order, k)
			}
		}
	}
	if len(order) < len(l) {
		return nil, nil, api.ErrChain
	}
	return raws, spots, api.OK
}

// slowRead reads by the chapter's words: of the errors that there are the one that is named first.
func slowRead(p string, x *index.Index, id string) (string, api.Errno) {
	var row []api.Item
	for next := id; len(row) <= 3000; next = row[len(row)-1].Base {
		at, is := x.Find(next)
		if !is {
			return "", api.ErrGone
		}
		item, e := pack.One(p, at)
		if e != api.OK {
			return "", e
		}
		if row = append(row, item); item.Base == "" {
			break
		}
	}
	if len(row) > 13 {
		return "", api.ErrChain
	}
	slices.Reverse(row)
	raw, e := row[0].Data, api.OK
	for _, item := range row[1:] {
		if raw, e = delta.Apply(raw, item.Data, 1<<18+64); e != api.OK {
			return "", e
		}
	}
	if sumOf(raw) != id {
		return "", api.ErrSpoilt
	}
	return raw, api.OK
}

// show is the first few items, as a fault is told of them.
func show(l []api.Item) string {
	out := fmt.Sprintf("%d items ", len(l))
	for _, x := range l[:min(len(l), 5)] {
		out += fmt.Sprintf("{%.4x, %.60q, %d}", x.Base, x.Data, x.At)
	}
	return out
}

// wantItems wants these items.
func wantItems(t *testing.T, raws []string, bases []int, want []api.Item) {
	t.Helper()
	if got := chain.Items(raws, bases); !slices.Equal(got, want) {
		t.Errorf("Items of %d objects with bases %v: %s; wanted %s", len(raws), bases, show(got), show(want))
	}
}

// wantSolve wants these objects, each where its item stands.
func wantSolve(t *testing.T, what string, l []api.Item, want []string) {
	t.Helper()
	raws, spots, e := chain.Solve(l)
	if e != api.OK || !slices.Equal(raws, want) || !slices.Equal(spots, spotsOf(l, want)) {
		t.Errorf("%s: Solve of %s: %d objects %.200q, %d spots, %d", what, show(l), len(raws), raws, len(spots), e)
	}
}

// wantNoSolve wants this error, and nothing beside it.
func wantNoSolve(t *testing.T, what string, l []api.Item, want api.Errno) {
	t.Helper()
	if raws, spots, e := chain.Solve(l); e != want || len(raws) != 0 || len(spots) != 0 {
		t.Errorf("%s: Solve of %s: %d objects, %d spots, %d; wanted %d", what, show(l), len(raws), len(spots), e, want)
	}
}

// wantUnpack wants these objects, and an index that knows just them.
func wantUnpack(t *testing.T, what, p string, want []string, spots []api.Spot) {
	t.Helper()
	raws, x, e := chain.Unpack(p)
	if e != api.OK || !slices.Equal(raws, want) {
		t.Fatalf("%s: Unpack: %d objects %.200q, %d; wanted %d", what, len(raws), raws, e, len(want))
	}
	if x == nil || x.Encode() != indexOf(t, p, spots).Encode() {
		t.Errorf("%s: Unpack: another index: %d spots", what, len(x.All()))
	}
}

// wantNoUnpack wants this error, and nothing beside it.
func wantNoUnpack(t *testing.T, what, p string, want api.Errno) {
	t.Helper()
	if raws, x, e := chain.Unpack(p); e != want || len(raws) != 0 || x != nil {
		t.Errorf("%s: Unpack(%.80q): %d objects, %v, %d; wanted %d", what, p, len(raws), x != nil, e, want)
	}
}

// wantRead wants these bytes, or this error and none beside it.
func wantRead(t *testing.T, what, p string, x *index.Index, id, want string, wantErr api.Errno) {
	t.Helper()
	if raw, e := chain.Read(p, x, id); e != wantErr || raw != want {
		t.Errorf("%s: Read of %x: %.80q, %d; wanted %.80q, %d", what, id, raw, e, want, wantErr)
	}
}

// holdSolve holds Solve against the slow one.
func holdSolve(t *testing.T, what string, l []api.Item) api.Errno {
	t.Helper()
	raws, _, want := slowSolve(l)
	if want == api.OK {
		wantSolve(t, what, l, raws)
	} else {
		wantNoSolve(t, what, l, want)
	}
	return want
}
