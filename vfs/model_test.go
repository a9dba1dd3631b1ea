package vfs_test

import (
	"fmt"
	"math/rand"
	"path"
	"slices"
	"strings"
	"testing"

	"pollard/api"
	"pollard/vfs"
)

// The model says what the chapter says, word by word: it keeps every file that ever was, and works all else out anew at each call.

const isFolder = -1

type modelFile struct{ now, sure string }

type modelAct struct {
	what     string
	path, to string
	thing    int
}

type model struct {
	files     []modelFile
	now, sure map[string]int // a file's number, or isFolder; the root, too
	acts      []modelAct
	room      int
	steps     int
	plan      []api.Fall
	dead      bool
}

func newModel(room int) *model {
	return &model{room: room, now: map[string]int{".": isFolder}, sure: map[string]int{".": isFolder}}
}

// stands is whether something does, and whether it is a folder.
func stands(names map[string]int, p string) (there, folder bool) {
	x, there := names[p]
	return there, there && x == isFolder
}

func holdsSomething(names map[string]int, p string) bool {
	for q := range names {
		if strings.HasPrefix(q, p+"/") {
			return true
		}
	}
	return false
}

func doNames(names map[string]int, a modelAct) {
	there, _ := stands(names, a.path)
	switch a.what {
	case "come":
		if _, folder := stands(names, path.Dir(a.path)); !there && folder {
			names[a.path] = a.thing
		}
	case "go":
		if there && names[a.path] == a.thing && !holdsSomething(names, a.path) {
			delete(names, a.path)
		}
	case "move":
		if _, folder := stands(names, path.Dir(a.to)); !folder || holdsSomething(names, a.to) {
			return
		}
		if there && names[a.path] == a.thing {
			delete(names, a.path)
		}
		names[a.to] = a.thing
	}
}

func (m *model) used() int {
	n := 0
	for i, x := range m.files {
		for _, y := range m.now {
			if y == i {
				n += len(x.now)
				break
			}
		}
	}
	return n
}

func (m *model) loose() int {
	n := len(m.acts)
	for _, x := range m.files {
		if x.now != x.sure {
			n++
		}
	}
	return n
}

func (m *model) crash(keep uint64, torn int) {
	if m.dead {
		return
	}
	bit := 0
	next := func() bool {
		bit++
		return bit <= 62 && keep&(1<<(bit-1)) != 0
	}
	for _, a := range m.acts {
		if next() {
			doNames(m.sure, a)
		}
	}
	first := true
	for i, x := range m.files {
		if x.now == x.sure {
			continue
		}
		if !next() {
			was := x.sure
			if first && torn > 0 {
				was = x.now[:min(torn, len(x.now))]
				if len(x.sure) > len(was) {
					was += x.sure[len(was):]
				}
			}
			first = false
			x.now = was
		}
		m.files[i] = modelFile{x.now, x.now}
	}
	m.acts = nil
	m.now = map[string]int{}
	for p, x := range m.sure {
		m.now[p] = x
	}
	m.dead = true
}

func (m *model) step(done func()) api.Errno {
	for i, x := range m.plan {
		if x.At == m.steps {
			m.plan = slices.Delete(slices.Clone(m.plan), i, i+1)
			m.crash(x.Keep, x.Torn)
			return api.ErrStill
		}
	}
	m.steps++
	done()
	return api.OK
}

func (m *model) act(a modelAct) {
	doNames(m.now, a)
	m.acts = append(m.acts, a)
}

func (m *model) write(p, s string) api.Errno {
	there, folder := stands(m.now, p)
	_, within := stands(m.now, path.Dir(p))
	grow := len(s)
	if there && !folder {
		grow -= len(m.files[m.now[p]].now)
	}
	switch {
	case !within:
		return api.ErrGone
	case folder:
		return api.ErrDir
	case grow > 0 && m.used()+grow > m.room:
		return api.ErrFull
	}
	return m.step(func() {
		if !there {
			m.files = append(m.files, modelFile{})
			m.act(modelAct{what: "come", path: p, thing: len(m.files) - 1})
		}
		m.files[m.now[p]].now = s
	})
}

func (m *model) rename(p, to string) api.Errno {
	there, folder := stands(m.now, p)
	_, within := stands(m.now, path.Dir(to))
	_, onto := stands(m.now, to)
	switch {
	case !there:
		return api.ErrGone
	case folder:
		return api.ErrDir
	case p == to:
		return api.ErrAsk
	case !within:
		return api.ErrGone
	case onto:
		return api.ErrDir
	}
	return m.step(func() { m.act(modelAct{"move", p, to, m.now[p]}) })
}

func (m *model) syncDir(p string) api.Errno {
	if p == "" {
		p = "."
	}
	if _, folder := stands(m.now, p); !folder {
		return api.ErrGone
	}
	return m.step(func() {
		var left []modelAct
		for _, a := range m.acts {
			if path.Dir(a.path) == p || a.to != "" && path.Dir(a.to) == p {
				doNames(m.sure, a)
			} else {
				left = append(left, a)
			}
		}
		m.acts = left
	})
}

// line plays one call of those that package vfs's line knows.
func (m *model) line(s string) api.Errno {
	w := append(strings.Split(s, " "), "", "")
	p, more := w[1], w[2]
	there, folder := stands(m.now, p)
	_, within := stands(m.now, path.Dir(p))
	if m.dead {
		return api.ErrStill
	}
	switch w[0] {
	case "write":
		return m.write(p, more)
	case "rename":
		return m.rename(p, more)
	case "syncdir":
		return m.syncDir(p)
	case "mkdir":
		if !within {
			return api.ErrGone
		}
		if there {
			return api.ErrThere
		}
		return m.step(func() { m.act(modelAct{what: "come", path: p, thing: isFolder}) })
	}
	if !there {
		return api.ErrGone
	}
	if w[0] == "remove" {
		if holdsSomething(m.now, p) {
			return api.ErrThere
		}
		return m.step(func() { m.act(modelAct{what: "go", path: p, thing: m.now[p]}) })
	}
	if folder {
		return api.ErrDir
	}
	return m.step(func() { m.files[m.now[p]].sure = m.files[m.now[p]].now })
}

// told is all that stands there, sorted.
func (m *model) told() string {
	var l []string
	for p, x := range m.now {
		if p == "." {
			continue
		}
		if x == isFolder {
			l = append(l, p+"/")
		} else {
			l = append(l, p+"="+m.files[x].now)
		}
	}
	slices.Sort(l)
	return strings.Join(l, " ")
}

// someLine is a call by chance, of few paths, so that they meet.
func someLine(r *rand.Rand) string {
	paths := []string{"a", "b", "d", "e", "d/a", "d/b", "d/e", "d/e/a", "e/a", "a/b"}
	one := func() string { return paths[r.Intn(len(paths))] }
	text := strings.Repeat(string(rune('p'+r.Intn(8))), r.Intn(5))
	switch r.Intn(12) {
	case 0, 1:
		return "mkdir " + one()
	case 2, 3, 4:
		return "write " + one() + " " + text
	case 5:
		return "sync " + one()
	case 6:
		return "syncdir " + []string{"", "d", "e", "d/e", "a"}[r.Intn(5)]
	case 7, 8, 9:
		return "rename " + one() + " " + one()
	}
	return "remove " + one()
}

// sameAs holds all that can be asked against the model; without power its clone is asked.
func sameAs(t *testing.T, f *vfs.FS, m *model, what string) {
	t.Helper()
	if f.Dead() != m.dead || f.Used() != m.used() || f.Steps() != m.steps || f.Loose() != m.loose() {
		t.Fatalf("%s: %v %d %d %d, the model %v %d %d %d", what, f.Dead(), f.Used(), f.Steps(), f.Loose(), m.dead, m.used(), m.steps, m.loose())
	}
	c := f.Clone()
	c.Up()
	l := strings.Split(told(t, c, ""), " ")
	slices.Sort(l)
	if got := strings.Join(l, " "); got != m.told() {
		t.Fatalf("%s: %q, the model %q", what, got, m.told())
	}
}

// befall is what may befall it beside calls.
func befall(r *rand.Rand, f *vfs.FS, m *model) string {
	keep, torn := r.Uint64(), r.Intn(6)-1
	switch r.Intn(4) {
	case 0:
		f.Crash(keep, torn)
		m.crash(keep, torn)
		return fmt.Sprintf("crash %x %d", keep, torn)
	case 1:
		plan := []api.Fall{{At: m.steps + r.Intn(9) - 1, Keep: keep, Torn: torn}, {At: m.steps + r.Intn(9) - 1, Keep: ^keep, Torn: 1}}
		f.Plan(plan)
		m.plan = plan
		return fmt.Sprint("plan ", plan)
	case 2:
		n := r.Intn(30) - 1
		f.Room(n)
		if n >= 0 {
			m.room = n
		}
		return fmt.Sprint("room ", n)
	}
	f.Up()
	m.dead = false
	return "up"
}

// Promises 3.1 and 3.2: what the model says, of calls by chance.
func TestModel(t *testing.T) {
	for seed := range int64(400) {
		r := rand.New(rand.NewSource(seed))
		f, _ := vfs.New(25)
		m := newModel(25)
		for i := range 250 {
			what := someLine(r)
			if r.Intn(12) == 0 || m.dead && r.Intn(2) == 0 {
				what = befall(r, f, m)
			} else if got, want := line(f, what), m.line(what); got != want {
				t.Fatalf("seed %d, call %d, %s: %d, the model %d", seed, i, what, got, want)
			}
			if r.Intn(20) == 0 {
				f = f.Clone()
			}
			sameAs(t, f, m, fmt.Sprintf("seed %d, call %d, %s", seed, i, what))
		}
	}
}
