package object

import (
	"slices"
	"strings"

	"pollard/api"
	"pollard/code"
	"pollard/label"
)

// The words of a commit's lines; that of its tree is the kind's.
const (
	parentWord = "parent"
	authorWord = "author"
	timeWord   = "time"
)

// CheckCommit tells why a commit may not be.
func CheckCommit(c api.Commit) api.Errno {
	if len(c.Parents) > api.MostParents {
		return api.ErrMuch
	}
	if !mayBeID(c.Tree) || !mayBeParents(c.Parents) || !mayBeAuthor(c.Author) || !mayBeText(c.Text) {
		return api.ErrBad
	}
	return api.OK
}

// mayBeParents tells whether all are ids, each there once.
func mayBeParents(l []string) bool {
	for i, id := range l {
		if !mayBeID(id) || slices.Contains(l[:i], id) {
			return false
		}
	}
	return true
}

// mayBeAuthor tells whether a text may be an author's name.
func mayBeAuthor(s string) bool {
	// A / may stand here as any letter may in a tree's name, so one takes its place.
	return label.Name(strings.ReplaceAll(s, "/", "x"))
}

// PutCommit is a commit's body.
func PutCommit(c api.Commit) (string, api.Errno) {
	if e := CheckCommit(c); e != api.OK {
		return "", e
	}
	body := line(treeWord, code.Hex(c.Tree))
	for _, id := range c.Parents {
		body += line(parentWord, code.Hex(id))
	}
	body += line(authorWord, c.Author) + line(timeWord, code.Dec(c.Time))
	return body + lineEnd + c.Text, api.OK
}

// GetCommit is the commit of a body.
func GetCommit(body string) (api.Commit, api.Errno) {
	r := reader{rest: body}
	c := api.Commit{Tree: r.takeID(treeWord)}
	for r.next(parentWord) {
		c.Parents = append(c.Parents, r.takeID(parentWord))
	}
	c.Author = strings.Clone(r.take(authorWord))
	c.Time = r.takeNumber(timeWord)
	c.Text = strings.Clone(r.takeText())
	if r.bad {
		return api.Commit{}, api.ErrBad
	}
	if e := CheckCommit(c); e != api.OK {
		return api.Commit{}, e
	}
	return c, api.OK
}
