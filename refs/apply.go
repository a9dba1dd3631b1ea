package refs

import (
	"slices"
	"strings"

	"pollard/api"
	"pollard/label"
)

// Apply is refs behind updates, all of them, or none: forward tells whether a branch may go from a commit to another one.
func Apply(r api.Refs, l []api.Update, forward func(from, to string) bool) (api.Refs, api.Errno) {
	// forward comes from outside, and may change what was handed in while it is asked.
	was := copyOf(r)
	if len(l) > api.MostUpdates {
		return was, api.ErrMuch
	}
	if e := Check(r); e != api.OK {
		return was, e
	}
	now, asked := copyOf(r), slices.Clone(l)
	for i, u := range asked {
		if e := checkUpdate(now, asked[:i], u, forward); e != api.OK {
			return was, e
		}
		now.List = moved(now.List, u)
	}
	// One that goes later makes room for one that came ahead of it, so that they are counted only now.
	if len(now.List) > api.MostRefs {
		return was, api.ErrMuch
	}
	return now, api.OK
}

// checkUpdate tells why an update may not be done to refs, behind those ahead of it.
func checkUpdate(r api.Refs, ahead []api.Update, u api.Update, forward func(from, to string) bool) api.Errno {
	if e := checkAsked(ahead, u); e != api.OK {
		return e
	}
	if Get(r, u.Name) != u.Old {
		return api.ErrStale
	}
	if u.New == "" && u.Name == r.Head {
		return api.ErrHead
	}
	if u.New == "" || u.Old == "" || u.New == u.Old || u.Force {
		return api.OK
	}
	if !label.Head(u.Name) {
		return api.ErrFixed
	}
	if !mayGo(forward, u.Old, u.New) {
		return api.ErrForward
	}
	return api.OK
}

// checkAsked tells why an update may not be asked for, whatever the refs are.
func checkAsked(ahead []api.Update, u api.Update) api.Errno {
	if slices.ContainsFunc(ahead, func(x api.Update) bool { return x.Name == u.Name }) {
		return api.ErrAsk
	}
	if !label.Ref(u.Name) {
		return api.ErrLabel
	}
	if u.New != "" && !mayBeID(u.New) || u.New == "" && u.Old == "" {
		return api.ErrAsk
	}
	return api.OK
}

// mayGo tells whether forward lets a branch go to another commit. One that is nil, or panics, does not.
func mayGo(forward func(from, to string) bool, from, to string) (may bool) {
	// It comes from outside, and no call here may panic, whatever is handed in.
	defer func() { _ = recover() }()
	return forward(from, to)
}

// moved is a list whose names rise behind an update.
func moved(l []api.Ref, u api.Update) []api.Ref {
	at, is := slices.BinarySearchFunc(l, u.Name, againstName)
	behind := at
	if is {
		behind++
	}
	if u.New == "" {
		return slices.Delete(l, at, behind)
	}
	return slices.Replace(l, at, behind, api.Ref{Name: strings.Clone(u.Name), ID: strings.Clone(u.New)})
}

func againstName(x api.Ref, name string) int { return strings.Compare(x.Name, name) }
