package loose_test

import (
	"strings"
	"testing"

	"pollard/api"
	"pollard/code"
	"pollard/loose"
	"pollard/lz"
	"pollard/vfs"
)

// Promise 8.1: what was never kept, what was dropped and what is no id is gone; without power nothing is told.
func TestGetGone(t *testing.T) {
	near := neighbours(3)
	f := ready(t, near[:2]...)
	wantErr(t, "Drop", loose.Drop(f, sumOf(near[0])), api.OK)
	wantGet(t, f, near[1])
	ids := append(noIDs(), sumOf(near[0]), sumOf(near[2]), idOf('i'), idOf(0), idOf(0xff))
	play(t, f, "write objects/incoming "+pressed(t, near[2]))
	nothing, zero := empty(t), &vfs.FS{}
	for _, id := range ids {
		wantNoGet(t, f, id, api.ErrGone)
		wantNoGet(t, nothing, id, api.ErrGone)
		wantNoGet(t, zero, id, api.ErrGone)
		wantNoGet(t, dead(f), id, api.ErrStill)
		wantNoGet(t, dead(nothing), id, api.ErrStill)
		wantNoGet(t, nil, id, api.ErrStill)
	}
	wantNoGet(t, dead(f), sumOf(near[1]), api.ErrStill)
}

// Promise 8.1: a folder in the place of the file is vfs's error, behind the others; one in which it should stand that is a file, none.
func TestGetFolder(t *testing.T) {
	f := ready(t)
	raw := blob("x")
	play(t, f, "write "+folderOf(raw)+" "+pressed(t, raw))
	wantNoGet(t, f, sumOf(raw), api.ErrGone)
	play(t, f, "remove "+folderOf(raw), "mkdir "+folderOf(raw), "mkdir "+fileOf(raw))
	wantNoGet(t, f, sumOf(raw), api.ErrDir)
	wantNoGet(t, dead(f), sumOf(raw), api.ErrStill)
}

// Promise 8.1: each kind of spoiling is found out, and power is asked for first.
func TestGetSpoilt(t *testing.T) {
	for _, raw := range someRaws() {
		f := ready(t, raw)
		right := pressed(t, raw)
		wrongs := []string{raw, "\x80", strings.Repeat("\x80", 9), right + "\x00", right + right, "\x00", pressed(t, ""), pressed(t, raw+"x"), pressed(t, raw[1:]), pressed(t, right), code.Frame(raw), code.Num(1<<20 + 1), code.Num(1<<20) + right}
		for _, other := range append(someRaws(), blob("other")) {
			if other != raw {
				wrongs = append(wrongs, pressed(t, other))
			}
		}
		for k := range len(right) {
			wrongs = append(wrongs, right[:k], right[k+1:], right[:k]+string([]byte{right[k] ^ 1})+right[k+1:], right[:k]+string([]byte{right[k] ^ 0x80})+right[k+1:])
		}
		for _, wrong := range wrongs {
			play(t, f, "write "+fileOf(raw)+" "+wrong)
			if s, e := lz.Spread(wrong, api.MostPlain); s == raw && e == api.OK {
				wantGet(t, f, raw) // another byte may press the same text: a repetition from farther back
				continue
			}
			wantNoGet(t, f, sumOf(raw), api.ErrSpoilt)
		}
		wantNoGet(t, dead(f), sumOf(raw), api.ErrStill)
		play(t, f, "write "+fileOf(raw)+" "+right)
		wantGet(t, f, raw)
	}
}

// Promise 8.1: it is the bytes that count, not how they are pressed.
func TestGetOtherPressing(t *testing.T) {
	raw := blob(strings.Repeat("a", 100))
	f := ready(t, raw)
	alone := code.Num(uint64(len(raw))) + code.Num(uint64(len(raw))) + raw
	if alone == pressed(t, raw) {
		t.Fatal("it is the same pressing")
	}
	play(t, f, "write "+fileOf(raw)+" "+alone)
	wantGet(t, f, raw)
	steps := f.Steps()
	wantPut(t, f, raw)
	if f.Steps() != steps {
		t.Error("Put of what can be read did something")
	}
}

// Rule R2: what is asked for and answered changes nothing that is kept.
func TestGetChangesNothing(t *testing.T) {
	f := ready(t, someRaws()...)
	ahead := f.Clone()
	for _, raw := range someRaws() {
		loose.Get(f, sumOf(raw))
		loose.Has(f, sumOf(raw))
	}
	loose.Get(f, idOf('i'))
	loose.List(f)
	wantSame(t, "Get, Has and List", f, ahead)
}
