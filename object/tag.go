package object

import (
	"strings"

	"pollard/api"
	"pollard/code"
	"pollard/label"
)

// The words of a tag's lines.
const (
	objectWord = "object"
	kindWord   = "kind"
	nameWord   = "name"
)

// tagsFolder stands ahead of a tag's name in the name of its ref.
const tagsFolder = "tags/"

// CheckTag tells why a tag may not be.
func CheckTag(t api.Tag) api.Errno {
	if wordOf(t.Kind) == "" {
		return api.ErrKind
	}
	if !mayBeID(t.Target) || !label.Ref(tagsFolder+t.Name) || !mayBeText(t.Text) {
		return api.ErrBad
	}
	return api.OK
}

// PutTag is a tag's body.
func PutTag(t api.Tag) (string, api.Errno) {
	if e := CheckTag(t); e != api.OK {
		return "", e
	}
	body := line(objectWord, code.Hex(t.Target)) + line(kindWord, wordOf(t.Kind)) + line(nameWord, t.Name)
	return body + lineEnd + t.Text, api.OK
}

// GetTag is the tag of a body.
func GetTag(body string) (api.Tag, api.Errno) {
	r := reader{rest: body}
	t := api.Tag{Target: r.takeID(objectWord)}
	t.Kind = r.takeKind(kindWord)
	t.Name = strings.Clone(r.take(nameWord))
	t.Text = strings.Clone(r.takeText())
	if r.bad {
		return api.Tag{}, api.ErrBad
	}
	if e := CheckTag(t); e != api.OK {
		return api.Tag{}, e
	}
	return t, api.OK
}
