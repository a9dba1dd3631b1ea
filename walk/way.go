package walk

import (
	"strings"

	"pollard/api"
	"pollard/object"
)

// way is a walk that goes on: what was looked at so far.
type way struct {
	get   Getter
	stop  func(id string) bool
	kinds map[string]int // by the ids
	ids   []string       // in their order
}

// follow is what the object of a link names, if it is a new one; nothing, if the link is passed over.
func (w *way) follow(l api.Link) ([]api.Link, api.Errno) {
	kind, looked := w.kinds[l.ID]
	if looked && kind != l.Kind {
		return nil, api.ErrKind
	}
	// Stop is asked of new ones alone: it may not hide that one id was named with two kinds.
	if looked || tells(w.stop, l.ID) {
		return nil, api.OK
	}
	if len(w.ids) == api.MostWalk {
		return nil, api.ErrMuch
	}
	named, e := look(w.get, l)
	if e != api.OK {
		return nil, e
	}
	id := strings.Clone(l.ID)
	w.kinds[id] = l.Kind
	w.ids = append(w.ids, id)
	return named, api.OK
}

// look is what the object of a link names.
func look(get Getter, l api.Link) ([]api.Link, api.Errno) {
	kind, raw, e := open(get, l.ID)
	if e != api.OK {
		return nil, e
	}
	if kind != l.Kind {
		return nil, api.ErrKind
	}
	return object.Links(raw)
}

// open is an object's kind and its bytes.
func open(get Getter, id string) (int, string, api.Errno) {
	raw, e := ask(get, id)
	if e != api.OK {
		return 0, "", e
	}
	kind, _, e := object.Open(raw)
	if e != api.OK {
		return 0, "", e
	}
	return kind, raw, api.OK
}

// ask is what a getter tells. One that is nil, or panics, has nothing.
func ask(get Getter, id string) (raw string, e api.Errno) {
	// It comes from outside, and no call here may panic, whatever is handed in.
	defer func() { _ = recover() }()
	e = api.ErrGone
	return get(id)
}

// tells is whether stop tells an object. One that is nil, or panics, does not.
func tells(stop func(id string) bool, id string) (told bool) {
	if stop == nil {
		return false
	}
	defer func() { _ = recover() }()
	return stop(id)
}
