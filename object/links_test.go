package object_test

import (
	"slices"
	"strconv"
	"testing"

	"pollard/api"
	"pollard/object"
	"pollard/sample"
	"pollard/tree"
)

// Promise 7.3: a blob names nothing, whatever its body is.
func TestLinksBlob(t *testing.T) {
	bodies := append(someBodies(), "what", commitBody(ordinary(1)), tagBody(ordinaryTag()), "file a\x00"+idOf('i'), sample.Text(api.MostBody))
	for _, body := range bodies {
		wantLinks(t, rawOf("blob", body))
	}
}

// Promise 7.3: a tree names each entry, in order, by its mode.
func TestLinksTree(t *testing.T) {
	wantLinks(t, "tree 0\x00")
	wantLinks(t, rawOf("tree", "file a\x00"+idOf(1)), api.Link{Kind: api.KindBlob, ID: idOf(1)})
	wantLinks(t, rawOf("tree", "run a\x00"+idOf(2)), api.Link{Kind: api.KindBlob, ID: idOf(2)})
	wantLinks(t, rawOf("tree", "tree a\x00"+idOf(3)), api.Link{Kind: api.KindTree, ID: idOf(3)})
	wantLinks(t, rawOf("tree", "tree a\x00"+idOf(9)+"file b\x00"+idOf(0)+"tree c\x00"+idOf(5)+"run d\x00"+idOf(9)),
		api.Link{Kind: api.KindTree, ID: idOf(9)}, api.Link{Kind: api.KindBlob, ID: idOf(0)}, api.Link{Kind: api.KindTree, ID: idOf(5)}, api.Link{Kind: api.KindBlob, ID: idOf(9)})

	var entries []api.Entry
	var want []api.Link
	for i := range api.MostEntries {
		x := api.Entry{Name: "f" + strconv.Itoa(1000+i), Mode: 1 + i*7%3, ID: sumOf(strconv.Itoa(i / 2))}
		entries = append(entries, x)
		want = append(want, api.Link{Kind: map[int]int{1: 1, 2: 1, 3: 2}[x.Mode], ID: x.ID})
	}
	body, e := tree.Encode(entries)
	if e != api.OK {
		t.Fatal(e)
	}
	wantLinks(t, rawOf("tree", body), want...)
	wantNoLinks(t, rawOf("tree", body+"file z\x00"+idOf('i')), api.ErrMuch)
}

// Promise 7.3: the errors of a tree's bytes.
func TestLinksTreeErrors(t *testing.T) {
	fine := "file b\x00" + idOf('i')
	for _, c := range []struct {
		body string
		want api.Errno
	}{
		{"f", api.ErrEnd}, {fine + "f", api.ErrEnd}, {fine[:len(fine)-1], api.ErrEnd},
		{"what b\x00" + idOf('i'), api.ErrMode}, {"blob b\x00" + idOf('i'), api.ErrMode}, {"fileb\x00" + idOf('i'), api.ErrMode},
		{"file \x00" + idOf('i'), api.ErrLabel}, {"file a/b\x00" + idOf('i'), api.ErrLabel},
		{fine + fine, api.ErrOrder}, {fine + "tree a\x00" + idOf('i'), api.ErrOrder},
		{commitBody(ordinary(1)), api.ErrEnd}, {tagBody(ordinaryTag()), api.ErrEnd},
	} {
		wantNoLinks(t, rawOf("tree", c.body), c.want)
	}
}

// Promise 7.3: a commit names its tree, and its parents in order.
func TestLinksCommit(t *testing.T) {
	for n := range api.MostParents + 1 {
		c := ordinary(n)
		for range 2 {
			want := []api.Link{{Kind: api.KindTree, ID: c.Tree}}
			for _, id := range c.Parents {
				want = append(want, api.Link{Kind: api.KindCommit, ID: id})
			}
			wantLinks(t, rawOf("commit", commitBody(c)), want...)
			slices.Reverse(c.Parents)
		}
	}
	c := ordinary(1)
	c.Parents[0] = c.Tree
	wantLinks(t, rawOf("commit", commitBody(c)), api.Link{Kind: api.KindTree, ID: c.Tree}, api.Link{Kind: api.KindCommit, ID: c.Tree})
	// What a text says is not named.
	c.Text = commitBody(ordinary(2))
	wantLinks(t, rawOf("commit", commitBody(c)), api.Link{Kind: api.KindTree, ID: c.Tree}, api.Link{Kind: api.KindCommit, ID: c.Tree})
}

// Promise 7.3: a tag names its target, with its kind.
func TestLinksTag(t *testing.T) {
	for kind := range someKinds() {
		for b := range 256 {
			x := ordinaryTag()
			x.Kind, x.Target = kind, idOf(byte(b))
			wantLinks(t, rawOf("tag", tagBody(x)), api.Link{Kind: kind, ID: x.Target})
		}
	}
}

// Promise 7.3: Open's error comes ahead of the body's; bodies of another kind, and empty ones, are refused.
func TestLinksErrors(t *testing.T) {
	commit, tag := commitBody(ordinary(1)), tagBody(ordinaryTag())
	for _, body := range []string{"", "x", commit, tag, "\xff", "\n\n"} {
		for _, word := range someKinds() {
			wantShut(t, rawOf("what", body), api.ErrKind)
			wantShut(t, word+" 0"+strconv.Itoa(len(body))+"\x00"+body, api.ErrBad)
			wantShut(t, word+" 262145\x00"+body, api.ErrMuch)
			wantShut(t, word+" "+strconv.Itoa(len(body)+1)+"\x00"+body, api.ErrEnd)
			wantShut(t, rawOf(word, body)+"\x00", api.ErrRest)
		}
	}
	for _, body := range []string{"", "x", tag, "\xff", "\n\n"} {
		wantNoLinks(t, rawOf("commit", body), api.ErrBad)
	}
	for _, body := range []string{"", "x", commit, "\xff", "\n\n"} {
		wantNoLinks(t, rawOf("tag", body), api.ErrBad)
	}
	wantNoLinks(t, rawOf("commit", commitBody(ordinary(api.MostParents+1))), api.ErrMuch)
	x := ordinaryTag()
	x.Kind = 0
	wantNoLinks(t, rawOf("tag", tagBody(x)), api.ErrBad)
}

// Rule R2: each answer is a list of its own.
func TestLinksOwn(t *testing.T) {
	raw := rawOf("commit", commitBody(ordinary(2)))
	first, _ := object.Links(raw)
	kept := slices.Clone(first)
	second, _ := object.Links(raw)
	clear(first[:cap(first)])
	if !slices.Equal(second, kept) {
		t.Error(second)
	}
}
