package bases

import (
	"cmp"
	"slices"

	"pollard/api"
	"pollard/walk"
)

// Log is a commit and all that it stands behind, each behind all that stand behind it: of those that may come the one with the greatest time, of these the one with the least id.
func Log(get walk.Getter, id string) ([]string, api.Errno) {
	l, e := lineOf(get, id)
	if e != api.OK {
		return nil, e
	}
	o := order{line: l, ahead: l.children()}
	for id := range l {
		if o.ahead[id] == 0 {
			o.let(id)
		}
	}
	var log []string
	for len(o.may) > 0 {
		log = append(log, o.take())
	}
	return log, api.OK
}

// children is how many commits of a line there are of which each is a parent.
func (l line) children() map[string]int {
	n := map[string]int{}
	for _, c := range l {
		for _, id := range c.Parents {
			n[id]++
		}
	}
	return n
}

// order is a log that goes on.
type order struct {
	line  line
	ahead map[string]int // how many there are that must come ahead of each, and did not
	may   []string       // those that may come; the last one is the next
}

// let says of a commit that it may come.
func (o *order) let(id string) {
	at, _ := slices.BinarySearchFunc(o.may, id, o.compare)
	o.may = slices.Insert(o.may, at, id)
}

// compare is above 0, if the first one comes ahead of the other one where both may.
func (o *order) compare(a, b string) int {
	return cmp.Or(cmp.Compare(o.line[a].Time, o.line[b].Time), cmp.Compare(b, a))
}

// take is the next one; it lets those come that waited for it alone.
func (o *order) take() string {
	last := len(o.may) - 1
	id := o.may[last]
	o.may = o.may[:last]
	for _, p := range o.line[id].Parents {
		o.ahead[p]--
		if o.ahead[p] == 0 {
			o.let(p)
		}
	}
	return id
}
