package object

import (
	"pollard/api"
	"pollard/tree"
)

// Links is the objects that one names, in their order: the bytes must be of the form through and through.
func Links(raw string) ([]api.Link, api.Errno) {
	kind, body, e := split(raw)
	if e != api.OK {
		return nil, e
	}
	switch kind {
	case api.KindTree:
		return treeLinks(body)
	case api.KindCommit:
		return commitLinks(body)
	case api.KindTag:
		return tagLinks(body)
	}
	return nil, api.OK
}

func treeLinks(body string) ([]api.Link, api.Errno) {
	entries, e := tree.Decode(body)
	if e != api.OK {
		return nil, e
	}
	var l []api.Link
	for _, x := range entries {
		kind := api.KindBlob
		if x.Mode == api.ModeTree {
			kind = api.KindTree
		}
		l = append(l, api.Link{Kind: kind, ID: x.ID})
	}
	return l, api.OK
}

func commitLinks(body string) ([]api.Link, api.Errno) {
	c, e := GetCommit(body)
	if e != api.OK {
		return nil, e
	}
	l := []api.Link{{Kind: api.KindTree, ID: c.Tree}}
	for _, id := range c.Parents {
		l = append(l, api.Link{Kind: api.KindCommit, ID: id})
	}
	return l, api.OK
}

func tagLinks(body string) ([]api.Link, api.Errno) {
	t, e := GetTag(body)
	if e != api.OK {
		return nil, e
	}
	return []api.Link{{Kind: t.Kind, ID: t.Target}}, api.OK
}
