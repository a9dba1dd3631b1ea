package bases_test

import (
	"reflect"
	"slices"
	"strings"
	"testing"

	"pollard/api"
	"pollard/bases"
	"pollard/object"
	"pollard/walk"
)

// wantCommit asks for a commit.
func wantCommit(t *testing.T, what string, get walk.Getter, id string, want api.Commit) {
	t.Helper()
	c, e := bases.Commit(get, id)
	if e != api.OK || c.Tree != want.Tree || !slices.Equal(c.Parents, want.Parents) || c.Author != want.Author || c.Time != want.Time || c.Text != want.Text {
		t.Errorf("%.80q: %.300v, error %d; want %.300v", what, c, e, want)
	}
}

// wantNoCommit asks for no commit but an error.
func wantNoCommit(t *testing.T, what string, get walk.Getter, id string, want api.Errno) {
	t.Helper()
	if c, e := bases.Commit(get, id); e != want || !reflect.DeepEqual(c, api.Commit{}) {
		t.Errorf("%.80q: %.300v, error %d; want %d", what, c, e, want)
	}
}

// Promise 17.1, Commit: all of a commit, of no parents and of some; the getter is asked for this id alone.
func TestCommit(t *testing.T) {
	for _, c := range []api.Commit{
		{Tree: idOf("t"), Author: "a"},
		{Tree: idOf("t"), Parents: idsOf("p"), Author: "Ann B/C", Time: 1<<64 - 1, Text: "why\n\nmore"},
		{Tree: idOf("t"), Parents: idsOf("s p r q"), Author: "ä", Time: 7, Text: strings.Repeat("a", api.MostText)},
		{Tree: idOf("a"), Parents: idsOf("a"), Author: "x", Time: 1},
	} {
		body, _ := object.PutCommit(c)
		raw, _ := object.Raw(api.KindCommit, body)
		for _, id := range []string{idOf("a"), "", "a", object.ID(raw), idOf("\xff\x00"), strings.Repeat("long", 1000)} {
			var asked []string
			get := func(id string) (string, api.Errno) { asked = append(asked, id); return raw, api.OK }
			wantCommit(t, id, get, id, c)
			if !slices.Equal(asked, []string{id}) {
				t.Errorf("%.40q: asked for %.80q", id, asked)
			}
		}
	}
}

// Promise 17.1, Commit: the getter's error, whatever bytes stand beside it.
func TestCommitGetter(t *testing.T) {
	for _, err := range someErrors() {
		for _, beside := range []string{"", "x", commit(7, ""), rawOf("blob", "x"), rawOf("commit", "")} {
			get := func(string) (string, api.Errno) { return beside, err }
			wantNoCommit(t, beside, get, idOf("a"), err)
		}
	}
	for what, get := range noGetters() {
		wantNoCommit(t, what, get, idOf("a"), api.ErrGone)
		wantNoCommit(t, what, get, "", api.ErrGone)
	}
	wantNoCommit(t, "gone", store{}.get, idOf("a"), api.ErrGone)
}

// Promise 17.1, Commit: object.Open's error; ErrKind, also where the body would not be a commit's, or would be one; object.GetCommit's error.
func TestCommitErrors(t *testing.T) {
	for raw, want := range noObjects() {
		if _, _, e := object.Open(raw); e != want {
			t.Fatalf("Open(%q): %d; want %d", raw, e, want)
		}
		wantNoCommit(t, raw, store{"a": raw}.get, idOf("a"), want)
	}
	for _, raw := range noCommits() {
		if _, _, e := object.Open(raw); e != api.OK {
			t.Fatalf("Open(%q): %d", raw, e)
		}
		wantNoCommit(t, raw, store{"a": raw}.get, idOf("a"), api.ErrKind)
	}
	for raw, want := range noBodies() {
		kind, body, e := object.Open(raw)
		if _, f := object.GetCommit(body); e != api.OK || kind != api.KindCommit || f != want {
			t.Fatalf("%.80q: %d, %d, %d; want %d", raw, kind, e, f, want)
		}
		wantNoCommit(t, raw, store{"a": raw}.get, idOf("a"), want)
	}
}

// Promise 17.1, R2: a commit is the caller's own.
func TestCommitOwn(t *testing.T) {
	s := storeOf("a, b, c: a b")
	c, _ := bases.Commit(s.get, idOf("c"))
	c.Parents[0], c.Author = "x", "y"
	wantCommit(t, "c", s.get, idOf("c"), api.Commit{Tree: idOf("tree"), Parents: idsOf("a b"), Author: "Ann", Text: "why"})
}
