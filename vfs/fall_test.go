package vfs_test

import (
	"fmt"
	"math"
	"strings"
	"testing"

	"pollard/api"
	"pollard/vfs"
)

const all = math.MaxUint64

// Example 1 of the chapter, and what else is sure of names and bytes (section Words).
func TestSure(t *testing.T) {
	for _, c := range []struct {
		calls string
		want  string
	}{
		{"write a x,sync a", ""},
		{"write a x,sync a,syncdir", "a=x"},
		{"write a x,syncdir,sync a", "a=x"},
		{"write a x,syncdir", "a="},
		{"write a x,syncdir,sync a,write a yy", "a=x"},
		{"write a x,syncdir,sync a,write a yy,syncdir", "a=x"},
		{"write a x,syncdir,sync a,write a yy,sync a", "a=yy"},
		{"mkdir d", ""},
		{"mkdir d,syncdir", "d/"},
		{"mkdir d,syncdir d", ""},
		{"mkdir d,syncdir,mkdir d/e,syncdir", "d/"},
		{"mkdir d,syncdir,mkdir d/e,syncdir d", "d/ d/e/"},
		{"mkdir d,syncdir,write d/a x,sync d/a,syncdir", "d/"},
		{"mkdir d,syncdir,write d/a x,sync d/a,syncdir d", "d/ d/a=x"},
		{"write a x,sync a,syncdir,remove a", "a=x"},
		{"write a x,sync a,syncdir,remove a,syncdir", ""},
		{"mkdir d,syncdir,remove d", "d/"},
		{"mkdir d,syncdir,remove d,syncdir", ""},
		{"write a x,sync a,syncdir,rename a b", "a=x"},
		{"write a x,sync a,syncdir,rename a b,syncdir", "b=x"},
		{"write a x,syncdir,rename a b,syncdir,sync b", "b=x"},
		{"write a x,syncdir,sync a,rename a b,write b yy,syncdir", "b=x"},
		{"write a x,sync a,write b y,sync b,syncdir,rename a b", "a=x b=y"},
		{"write a x,sync a,write b y,sync b,syncdir,rename a b,syncdir", "b=x"},
	} {
		f := made(t, strings.Split(c.calls, ",")...)
		if got := fallen(t, f, 0, 0); got != c.want {
			t.Errorf("%s: there stands %q, wanted %q", c.calls, got, c.want)
		}
	}
}

// What is done by Rename is sure from the SyncDir of either path's folder on, wholly, and of no other folder.
func TestSureRename(t *testing.T) {
	f := made(t, "mkdir d", "mkdir e", "mkdir g", "write d/a x", "sync d/a", "syncdir", "syncdir d", "rename d/a e/b")
	wantFallen(t, f, 0, 0, "d/ d/a=x e/ g/")
	for _, folder := range []string{"d", "e"} {
		g := f.Clone()
		play(t, g, "syncdir "+folder)
		wantInt(t, "loose", g.Loose(), 0)
		wantFallen(t, g, 0, 0, "d/ e/ e/b=x g/")
	}
	for _, folder := range []string{"", "g"} {
		g := f.Clone()
		play(t, g, "syncdir "+folder)
		wantInt(t, "loose", g.Loose(), 1)
		wantFallen(t, g, 0, 0, "d/ d/a=x e/ g/")
	}
}

// What was done in a folder is done in its order to the sure names; what these do not allow is not done, then or later.
func TestSureOrder(t *testing.T) {
	for _, c := range []struct {
		calls, want string
		loose       int
	}{
		{"write a x,sync a,rename a b,rename b c,write a y,sync a,remove c,rename a c,syncdir", "c=y", 0},
		{"mkdir d,mkdir d/e,remove d/e,remove d,mkdir d,write d/e x,sync d/e,syncdir,syncdir d", "d/ d/e=x", 0},
		{"mkdir d,write d/a x,sync d/a,syncdir d,syncdir", "d/", 0},                                                     // its folder was not sure
		{"mkdir d,write d/a x,sync d/a,syncdir,syncdir d,rename d/a a,remove d,write d y,sync d,syncdir", "a=x d=y", 0}, // the rename is done there, too
		{"mkdir d,syncdir,write d/a x,sync d/a,syncdir d,remove d/a,remove d,syncdir", "d/ d/a=x", 1},                   // something was in it
		{"mkdir d,syncdir,write d/a x,sync d/a,syncdir d,remove d/a,remove d,write d y,sync d,syncdir", "d/ d/a=x", 1},
		{"mkdir d,syncdir,write d/a x,sync d/a,syncdir d,remove d/a,remove d,syncdir,mkdir d,syncdir d,remove d,syncdir", "", 0},
		{"mkdir d,syncdir,mkdir d/a,syncdir d,remove d/a,remove d,write e x,sync e,rename e d,syncdir", "d/ d/a/ e=x", 1}, // nor can another take its place
		{"mkdir d,syncdir,write a x,sync a,rename a d/b,syncdir d,syncdir", "a=x d/ d/b=x", 0},
		{"mkdir d,write a x,sync a,rename a d/b,syncdir d,syncdir", "a=x d/", 0},
	} {
		f := made(t, strings.Split(c.calls, ",")...)
		wantInt(t, c.calls+": loose", f.Loose(), c.loose)
		if got := fallen(t, f, 0, 0); got != c.want {
			t.Errorf("%s: there stands %q, wanted %q", c.calls, got, c.want)
		}
	}
}

// What was done to names and has its bit is done to the sure ones, in its order; what needs something that was lost is not.
func TestKeepNames(t *testing.T) {
	f := made(t, "mkdir d", "mkdir d/e", "mkdir b", "remove b", "mkdir d/g")
	for keep, want := range map[uint64]string{
		0: "", 1: "d/", 2: "", 3: "d/ d/e/", 1 << 2: "b/", 1<<2 | 1<<3: "", 1 << 3: "", 1 | 1<<4: "d/ d/g/", all: "d/ d/e/ d/g/", all - 1: "", all &^ 31: "", all - 1<<3: "b/ d/ d/e/ d/g/",
	} {
		wantFallen(t, f, keep, 0, want)
	}
}

// Each of what was done to a name goes by the file that it was done to: another one that stands there stays.
func TestKeepOtherFile(t *testing.T) {
	f := made(t, "write a x", "sync a", "syncdir", "remove a", "write a y", "sync a", "remove a", "write a z", "sync a")
	for keep, want := range map[uint64]string{
		0: "a=x", 1: "", 2: "a=x", 3: "a=y", 4: "a=x", 7: "", 8: "a=x", 8 | 1: "a=z", 4 | 8: "a=x", 8 | 2 | 1: "a=y", all: "a=z",
	} {
		wantFallen(t, f, keep, 0, want)
	}
	f = made(t, "write a x", "sync a", "syncdir", "rename a b", "write a y", "sync a", "rename a c")
	for keep, want := range map[uint64]string{
		0: "a=x", 1: "b=x", 2: "a=x", 3: "a=y b=x", 4: "a=x c=y", 4 | 1: "b=x c=y", 4 | 2: "a=x c=y", all: "b=x c=y",
	} {
		wantFallen(t, f, keep, 0, want)
	}
}

// A file goes only as a file, and a folder as a folder; a file may take the place of a folder that was lost, if nothing is in it.
func TestKeepOtherKind(t *testing.T) {
	f := made(t, "mkdir a", "syncdir", "remove a", "write a x", "sync a", "remove a", "write b y", "sync b", "rename b a")
	for keep, want := range map[uint64]string{
		0: "a/", 1: "", 3: "a=x", 4: "a/", 7: "", 8: "a/ b=y", 16: "a=y", 8 | 16: "a=y", 16 | 2: "a=y", all: "a=y",
	} {
		wantFallen(t, f, keep, 0, want)
	}
	f = made(t, "mkdir a", "mkdir a/c", "syncdir", "syncdir a", "remove a/c", "remove a", "write b y", "sync b", "rename b a")
	for keep, want := range map[uint64]string{
		0: "a/ a/c/", 1: "a/", 2: "a/ a/c/", 3: "", 8: "a/ a/c/", 4 | 8: "a/ a/c/ b=y", 8 | 1: "a=y", all: "a=y",
	} {
		wantFallen(t, f, keep, 0, want)
	}
	f = made(t, "write a x", "sync a", "syncdir", "remove a", "mkdir a", "remove a")
	wantFallen(t, f, 4, 0, "a=x")
	f = made(t, "mkdir a", "syncdir", "remove a", "mkdir a", "remove a")
	wantFallen(t, f, 4, 0, "")
}

// Files' bits come behind those of names, in the order in which the files came, whatever was written or renamed since.
func TestKeepBytes(t *testing.T) {
	f := made(t, "write c 1", "write b 2", "write a 3", "sync a", "syncdir", "write a 33", "write b 22", "write c 11", "rename b d")
	for keep, want := range map[uint64]string{
		0:     "a=3 b= c=",
		1:     "a=3 c= d=",
		2:     "a=3 b= c=11",
		4:     "a=3 b=22 c=",
		8:     "a=33 b= c=",
		2 | 8: "a=33 b= c=11",
		all:   "a=33 c=11 d=22",
	} {
		wantFallen(t, f, keep, 0, want)
	}
	play(t, f, "sync c", "write a 3")
	wantInt(t, "loose", f.Loose(), 2)
	wantFallen(t, f, 2, 0, "a=3 b=22 c=11")
}

// Of the first file that is not kept some bytes are, and behind these the sure ones; of all others none.
func TestTorn(t *testing.T) {
	f := made(t, "write a 1234", "sync a", "write b 12", "sync b", "write c", "syncdir", "write a ab", "write b abcd", "write c abcd")
	for _, c := range []struct {
		keep uint64
		torn int
		want string
	}{
		{0, 0, "a=1234 b=12 c="}, {0, -1, "a=1234 b=12 c="}, {0, math.MinInt, "a=1234 b=12 c="},
		{0, 1, "a=a234 b=12 c="}, {0, 2, "a=ab34 b=12 c="}, {0, 3, "a=ab34 b=12 c="}, {0, math.MaxInt, "a=ab34 b=12 c="},
		{1, 0, "a=ab b=12 c="}, {1, 1, "a=ab b=a2 c="}, {1, 2, "a=ab b=ab c="}, {1, 3, "a=ab b=abc c="}, {1, 4, "a=ab b=abcd c="}, {1, 5, "a=ab b=abcd c="},
		{2, 1, "a=a234 b=abcd c="}, {3, 2, "a=ab b=abcd c=ab"}, {4, 1, "a=a234 b=12 c=abcd"}, {7, 1, "a=ab b=abcd c=abcd"}, {all, 1, "a=ab b=abcd c=abcd"},
	} {
		wantFallen(t, f, c.keep, c.torn, c.want)
	}
}

// Files without a name have their bits, too, and the first one may be one of these.
func TestNamelessFiles(t *testing.T) {
	f := made(t, "write a x", "remove a", "syncdir", "write b y", "syncdir")
	wantInt(t, "loose", f.Loose(), 2)
	wantInt(t, "used", f.Used(), 1)
	wantFallen(t, f, 0, 1, "b=")
	wantFallen(t, f, 1, 0, "b=")
	wantFallen(t, f, 1, 1, "b=y")
	wantFallen(t, f, 2, 0, "b=y")
	g := made(t, "write a x", "sync a", "syncdir", "write a yy", "remove a", "write b z")
	wantInt(t, "loose", g.Loose(), 4)
	wantFallen(t, g, 2|4, 0, "a=yy b=")
	wantFallen(t, g, 2, 1, "a=y b=")
}

// Bits from MostBits on are not set: of names, and of the bytes behind them.
func TestMostBits(t *testing.T) {
	for _, folders := range []int{0, 1, 30, 60, 61, 62, 63, 64, 65, 70} {
		f := made(t)
		for i := range 70 {
			play(t, f, fmt.Sprintf("write f%02d x", i))
		}
		play(t, f, "syncdir")
		for i := range folders {
			play(t, f, fmt.Sprintf("mkdir d%02d", i))
		}
		var want []string
		for i := range min(folders, api.MostBits) {
			want = append(want, fmt.Sprintf("d%02d/", i))
		}
		for i := range 70 {
			s := ""
			if folders+i < api.MostBits {
				s = "x"
			}
			want = append(want, fmt.Sprintf("f%02d=%s", i, s))
		}
		wantInt(t, "loose", f.Loose(), folders+70)
		wantFallen(t, f, all, 0, strings.Join(want, " "))
		wantFallen(t, f, all>>2, 0, strings.Join(want, " "))
	}
}

// A torn file may be the one whose bit would be the first that is not set any more.
func TestTornBeyondBits(t *testing.T) {
	f := made(t, "write a xx", "write b yy", "syncdir")
	for i := range api.MostBits {
		play(t, f, fmt.Sprintf("mkdir d%d", i))
	}
	f.Crash(all, 1)
	f.Up()
	for p, want := range map[string]string{"a": "x", "b": ""} {
		if s, e := f.Read(p); s != want || e != api.OK {
			t.Errorf("%s: %q, %d", p, s, e)
		}
	}
}

// All is sure behind a fall: another one at once takes nothing.
func TestFallTwice(t *testing.T) {
	f := made(t, "mkdir d", "write a xx", "write d/b y", "write c z")
	f.Crash(1<<0|1<<1|1<<4, 1)
	f.Up()
	wantTold(t, f, "a=xx d/")
	wantInt(t, "loose", f.Loose(), 0)
	wantInt(t, "used", f.Used(), 2)
	f.Crash(0, 0)
	f.Up()
	wantTold(t, f, "a=xx d/")
	play(t, f, "write d/b y", "sync d/b", "syncdir d", "write a torn")
	wantFallen(t, f, 0, 1, "a=tx d/ d/b=y")
}

// Crash and Up without power, and with it.
func TestPower(t *testing.T) {
	f := made(t, "write a xx", "syncdir")
	if f.Up() || f.Dead() {
		t.Error("it has power")
	}
	f.Crash(0, 1)
	if !f.Dead() {
		t.Error("it has power")
	}
	wantInt(t, "used", f.Used(), 1)
	f.Crash(all, 0)
	f.Crash(0, 0)
	wantInt(t, "used", f.Used(), 1)
	if !f.Up() || f.Dead() || f.Up() {
		t.Error("power")
	}
	wantTold(t, f, "a=x")
}

// A fall may leave one file under two names: its bytes are the same, and are counted once.
func TestTwoNames(t *testing.T) {
	f := made(t, "mkdir d", "syncdir", "write a xxx", "sync a", "rename a d/b", "syncdir d")
	wantInt(t, "loose", f.Loose(), 1)
	wantFallen(t, f, 0, 0, "d/ d/b=xxx")
	f.Crash(1, 0)
	f.Up()
	wantTold(t, f, "a=xxx d/ d/b=xxx")
	wantInt(t, "used", f.Used(), 3)
	f.Room(5)
	play(t, f, "write a yyyyy")
	wantTold(t, f, "a=yyyyy d/ d/b=yyyyy")
	wantInt(t, "used", f.Used(), 5)
	g := f.Clone()
	play(t, g, "write d/b zz")
	wantTold(t, g, "a=zz d/ d/b=zz")
	play(t, g, "remove a")
	wantInt(t, "used", g.Used(), 2)
	play(t, g, "remove d/b")
	wantInt(t, "used", g.Used(), 0)
	g = f.Clone()
	play(t, g, "rename a d/b")
	wantTold(t, g, "d/ d/b=yyyyy")
	wantInt(t, "used", g.Used(), 5)
	play(t, f, "write c", "rename c a")
	wantTold(t, f, "a= d/ d/b=yyyyy")
	wantInt(t, "used", f.Used(), 5)
}

// A fall of a plan strikes ahead of its step, which is not done and does not count.
func TestPlan(t *testing.T) {
	calls := []string{"mkdir d", "write d/a x", "sync d/a", "syncdir d", "rename d/a b", "remove b"}
	for at := range calls {
		f := made(t)
		f.Plan([]api.Fall{{At: at, Keep: all}})
		play(t, f, calls[:at]...)
		before := fallen(t, f, all, 0)
		wantErr(t, calls[at], line(f, calls[at]), api.ErrStill)
		if !f.Dead() {
			t.Error("it has power")
		}
		wantInt(t, "steps", f.Steps(), at)
		f.Up()
		wantTold(t, f, before)
		wantInt(t, "steps", f.Steps(), at)
	}
}

// A fall does not strike at what is hindered by something else, nor at what is no step.
func TestPlanWaits(t *testing.T) {
	f := made(t, "mkdir d", "write a x")
	f.Room(1)
	f.Plan([]api.Fall{{At: 2}})
	for s, want := range map[string]api.Errno{
		"mkdir d": api.ErrThere, "mkdir A": api.ErrPath, "write b xx": api.ErrFull, "write d x": api.ErrDir, "sync b": api.ErrGone, "syncdir a": api.ErrGone, "rename a a": api.ErrAsk, "rename a d": api.ErrDir, "remove b": api.ErrGone,
	} {
		wantErr(t, s, line(f, s), want)
	}
	f.Read("a")
	f.List("")
	if f.Dead() {
		t.Fatal("no power")
	}
	wantErr(t, "sync a", f.Sync("a"), api.ErrStill)
}

// Each fall strikes once: of several at one step the first of the plan first, the next one when the step is tried again.
func TestPlanSeveral(t *testing.T) {
	f := made(t, "write a xxxx")
	f.Plan([]api.Fall{{At: 3, Keep: 1}, {At: 1, Keep: 1, Torn: 3}, {At: 1}, {At: 3, Torn: 3}, {At: 0}, {At: -1}, {At: math.MinInt}, {At: math.MaxInt}})
	wantErr(t, "the first at 1", f.Mkdir("d"), api.ErrStill)
	f.Up()
	wantTold(t, f, "a=xxx")
	wantErr(t, "the next at 1", f.Mkdir("d"), api.ErrStill)
	f.Up()
	wantTold(t, f, "a=xxx")
	wantInt(t, "steps", f.Steps(), 1)
	play(t, f, "mkdir d", "mkdir e")
	wantErr(t, "the first at 3", f.Mkdir("g"), api.ErrStill)
	f.Up()
	wantTold(t, f, "a=xxx d/")
	wantErr(t, "the next at 3", f.Write("a", ""), api.ErrStill)
	f.Up()
	wantTold(t, f, "a=xxx d/")
	for range 20 {
		play(t, f, "write a 1", "sync a")
	}
	wantInt(t, "steps", f.Steps(), 43)
}

// A plan takes the place of the one ahead of it, may be laid without power, and is the caller's own list no more.
func TestPlanAnew(t *testing.T) {
	f := made(t)
	l := []api.Fall{{At: 1}, {At: 0}}
	f.Plan(l)
	if l[0].At != 1 || l[1].At != 0 {
		t.Error("the list was changed")
	}
	l[1].At = 7
	wantErr(t, "at 0", f.Mkdir("d"), api.ErrStill)
	f.Plan([]api.Fall{{At: 2}, {At: 0}})
	f.Up()
	wantErr(t, "at 0 of the new one", f.Mkdir("d"), api.ErrStill)
	f.Up()
	play(t, f, "mkdir d", "mkdir e")
	wantErr(t, "at 2", f.Mkdir("g"), api.ErrStill)
	f.Plan(nil)
	f.Up()
	play(t, f, "mkdir g")
	f.Plan([]api.Fall{{At: 3}})
	f.Plan([]api.Fall{})
	play(t, f, "mkdir h")
}

// Promise 3.2: how many things are not sure.
func TestLoose(t *testing.T) {
	f := made(t)
	for _, c := range []struct {
		call string
		want int
	}{
		{"mkdir d", 1}, {"write a", 2}, {"write a x", 3}, {"write a y", 3}, {"write a", 2}, {"write a y", 3}, {"sync a", 2}, {"sync a", 2}, {"write a y", 2}, {"write d/b z", 4}, {"syncdir", 2}, {"syncdir d", 1}, {"rename d/b c", 2}, {"remove c", 3}, {"syncdir d", 2}, {"syncdir", 1},
	} {
		play(t, f, c.call)
		wantInt(t, c.call, f.Loose(), c.want)
	}
	f.Crash(0, 0)
	wantInt(t, "no power", f.Loose(), 0)
}

// What was written is kept whole, however long.
func TestLong(t *testing.T) {
	s := strings.Repeat("0123456789", 1<<17)
	f, _ := vfs.New(len(s))
	f.Write("a", s)
	f.SyncDir("")
	wantErr(t, "one more", f.Write("a", s+"x"), api.ErrFull)
	f.Crash(0, len(s)/2)
	f.Up()
	if got, e := f.Read("a"); got != s[:len(s)/2] || e != api.OK {
		t.Error(len(got), e)
	}
}
