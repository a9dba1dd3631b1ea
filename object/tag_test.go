package object_test

import (
	"slices"
	"strings"
	"testing"

	"pollard/api"
	"pollard/object"
)

// Promise 7.2, PutTag and GetTag: bodies that are written out.
func TestTagKnown(t *testing.T) {
	wantTag(t, api.Tag{Target: idOf(0), Kind: api.KindBlob, Name: "v"},
		"object "+strings.Repeat("00", 32)+"\nkind blob\nname v\n\n")
	wantTag(t, api.Tag{Target: idOf(0xff), Kind: api.KindTree, Name: "v-1_x", Text: "why\n"},
		"object "+strings.Repeat("ff", 32)+"\nkind tree\nname v-1_x\n\nwhy\n")
	wantTag(t, api.Tag{Target: idOf('o'), Kind: api.KindCommit, Name: "0", Text: "\n\nä"},
		"object "+strings.Repeat("6f", 32)+"\nkind commit\nname 0\n\n\n\nä")
	wantTag(t, api.Tag{Target: idOf(1), Kind: api.KindTag, Name: "-", Text: "\x00"},
		"object "+strings.Repeat("01", 32)+"\nkind tag\nname -\n\n\x00")
}

// Promise 7.2: each kind of a target, and kinds that are none, which come ahead of what else is wrong with a tag; in a body such a kind has no word, so that it is of another form.
func TestTagKind(t *testing.T) {
	for kind := range someKinds() {
		x := ordinaryTag()
		x.Kind = kind
		wantTag(t, x, tagBody(x))
	}
	for _, kind := range noKinds() {
		x := ordinaryTag()
		x.Kind = kind
		wantNoTag(t, x, api.ErrKind)
		wantNoTagRead(t, tagBody(x), api.ErrBad)
		for _, spoil := range tagFaults() {
			y := x
			spoil(&y)
			wantNoTag(t, y, api.ErrKind)
		}
	}
	wantNoTag(t, api.Tag{}, api.ErrKind)
}

// Promise 7.2, GetTag: a body with a word that is of no kind is of another form, whatever else is wrong with it.
func TestTagKindWord(t *testing.T) {
	for _, word := range noKindWords() {
		if strings.Contains(word, "\n") {
			continue
		}
		faults := append(tagFaults(), func(x *api.Tag) {})
		for _, spoil := range faults {
			x := ordinaryTag()
			spoil(&x)
			body := strings.Replace(tagBody(x), "kind commit\n", "kind "+word+"\n", 1)
			wantNoTagRead(t, body, api.ErrBad)
			for _, s := range []string{body[1:], strings.Replace(body, "name", "Name", 1), strings.Replace(body, "\n\n", "\n", 1), "object z" + body[8:]} {
				wantNoTagRead(t, s, api.ErrBad)
			}
		}
	}
}

// tagFaults are things that are wrong in a tag beside its kind.
func tagFaults() []func(x *api.Tag) {
	return []func(x *api.Tag){
		func(x *api.Tag) { x.Target = "" },
		func(x *api.Tag) { x.Target = idOf('o')[1:] },
		func(x *api.Tag) { x.Name = "" },
		func(x *api.Tag) { x.Name = "a/b" },
		func(x *api.Tag) { x.Text = "\xff" },
		func(x *api.Tag) { x.Text = strings.Repeat("a", api.MostText+1) },
	}
}

// Promise 7.2: each fault alone, and with each other one.
func TestTagFaults(t *testing.T) {
	for _, one := range tagFaults() {
		for _, other := range tagFaults() {
			x := ordinaryTag()
			one(&x)
			other(&x)
			wantNoTag(t, x, api.ErrBad)
			wantNoTagRead(t, tagBody(x), api.ErrBad)
		}
	}
}

// Promise 7.2: ids of fewer or more bytes than 32, and ids of any bytes.
func TestTagTarget(t *testing.T) {
	for _, id := range noIDs() {
		x := ordinaryTag()
		x.Target = id
		wantNoTag(t, x, api.ErrBad)
		wantNoTagRead(t, tagBody(x), api.ErrBad)
	}
	for b := range 256 {
		x := ordinaryTag()
		x.Target = idOf(byte(b))
		wantTag(t, x, tagBody(x))
	}
}

// Promise 7.2: names that tags/ makes a ref, and names that it does not.
func TestTagName(t *testing.T) {
	for _, s := range []string{"a", "z", "0", "9", "-", "_", "v1", "v-1_2", "heads", "tags", strings.Repeat("a", 64), strings.Repeat("-", 64)} {
		x := ordinaryTag()
		x.Name = s
		wantTag(t, x, tagBody(x))
	}
	for _, s := range append(noRunes(), "", "/", "a/b", "tags/a", "heads/a", "/a", "a/", ".", "..", "v1.0", "A", "Z", "aB", " ", "a b", "a ", " a", "\n", "\na", "a\nb", "\x00", "a\x00", "ä", "日", "\ufffd", "a+", "a:", "a,", "~", "`", "{", "@", strings.Repeat("a", 65), strings.Repeat("a", 70), strings.Repeat("a", 1<<17)) {
		x := ordinaryTag()
		x.Name = s
		wantNoTag(t, x, api.ErrBad)
		wantNoTagRead(t, tagBody(x), api.ErrBad)
	}
	// A line's end at its end would be read as the empty line, and is refused ahead of that.
	x := ordinaryTag()
	x.Name = "a\n"
	wantNoTag(t, x, api.ErrBad)
	if y, e := object.GetTag(tagBody(x)); y.Name != "a" || y.Text != "\nwhy\n" || e != api.OK {
		t.Error(show(y), e)
	}
}

// Promise 7.2: texts that may be, and that may not.
func TestTagText(t *testing.T) {
	for _, s := range someTexts() {
		x := ordinaryTag()
		x.Text = s
		wantTag(t, x, tagBody(x))
	}
	for _, s := range noTexts() {
		x := ordinaryTag()
		x.Text = s
		wantNoTag(t, x, api.ErrBad)
		wantNoTagRead(t, tagBody(x), api.ErrBad)
	}
}

// tagLines are the lines of a tag, the empty one and that of the text among them.
func tagLines() []string {
	return strings.SplitAfter(strings.TrimSuffix(tagBody(ordinaryTag()), "\n"), "\n")
}

// Promise 7.2, GetTag: each line that is missing, or is there twice, or in another place.
func TestTagLines(t *testing.T) {
	l := tagLines()
	if len(l) != 5 {
		t.Fatalf("%q", l)
	}
	for i := range l {
		missing := strings.Join(slices.Delete(slices.Clone(l), i, i+1), "")
		twice := strings.Join(slices.Insert(slices.Clone(l), i, l[i]), "")
		if i < 4 {
			wantNoTagRead(t, missing, api.ErrBad)
		} else if _, e := object.GetTag(missing); e != api.OK {
			t.Errorf("GetTag(%q): %d", missing, e)
		}
		if i < 3 {
			wantNoTagRead(t, twice, api.ErrBad)
		} else if _, e := object.GetTag(twice); e != api.OK { // they go into the text
			t.Errorf("GetTag(%q): %d", twice, e)
		}
		for j := range i {
			m := slices.Clone(l)
			m[i], m[j] = m[j], m[i]
			wantNoTagRead(t, strings.Join(m, ""), api.ErrBad)
		}
	}
	wantNoTagRead(t, "", api.ErrBad)
	wantNoTagRead(t, "\n", api.ErrBad)
	wantNoTagRead(t, "\n\n", api.ErrBad)
}

// Promise 7.2, GetTag: bytes behind and in front of each line, other words, other digits, other ends.
func TestTagForms(t *testing.T) {
	l := tagLines()
	with := func(i int, s string) string {
		m := slices.Clone(l)
		m[i] = s
		return strings.Join(m, "")
	}
	for i, s := range l[:3] {
		bare := s[:len(s)-1]
		word, told, _ := strings.Cut(bare, " ")
		forms := []string{" " + s, "\n" + s, "\t" + s, "x" + s, "\x00" + s, bare, word + "\n", word + told + "\n", word + "\t" + told + "\n", word + ": " + told + "\n", strings.ToUpper(word) + " " + told + "\n", word + "s " + told + "\n", word[1:] + " " + told + "\n", s + "more x\n", s + " \n", bare + " \n", bare + "\r\n", bare + "\x00", word + "  " + told + "\n", bare + " " + told + "\n", word + " \n"}
		if i < 2 { // behind the name an empty line more is the text's
			forms = append(forms, s+"\n")
		}
		if i == 0 {
			forms = append(forms, bare+"x\n", word+" "+strings.ToUpper(told)+"\n", bare[:len(bare)-1]+"\n", bare+"0\n", bare+"00\n", word+" "+told[:62]+"\n", word+" "+told[:63]+"g\n", word+" "+idOf('i')+"\n")
		}
		for _, form := range forms {
			wantNoTagRead(t, with(i, form), api.ErrBad)
		}
	}
	for _, form := range []string{"kind 3\n", "kind commits\n", "kind commi\n", "kind Commit\n", "kind blob commit\n", "kind commit\x00\n"} {
		wantNoTagRead(t, with(1, form), api.ErrBad)
	}
	for _, form := range []string{" \n", "\r\n", "\x00\n", "x\n", "x", "\r"} {
		wantNoTagRead(t, with(3, form), api.ErrBad)
	}
	for _, other := range []string{commitBody(ordinary(1)), "file a\x00" + idOf('i'), rawOf("tag", strings.Join(l, ""))} {
		wantNoTagRead(t, other, api.ErrBad)
	}
}

// Promise 7.2, GetTag: bodies of which one byte is another one, or is gone, or is there twice, against what the chapter says; what is read has just these bytes.
func TestTagSpoilt(t *testing.T) {
	short := api.Tag{Target: idOf(0), Kind: api.KindTag, Name: "_", Text: "\n\xc3\xa4"}
	for _, x := range []api.Tag{short, ordinaryTag()} {
		for body := range spoilt(tagBody(x)) {
			wantSlowTag(t, body)
		}
	}
}

// Promise 7.2, GetTag: bodies put together from lines, in any order, against what the chapter says.
func TestTagTogether(t *testing.T) {
	l := []string{"object " + hexOf('o') + "\n", "object ab\n", "object a\n", "kind blob\n", "kind what\n", "name a\n", "name A\n", "\n", "a"}
	var longer func(s string, n int)
	longer = func(s string, n int) {
		wantSlowTag(t, s)
		if n == 0 {
			return
		}
		for _, x := range l {
			longer(s+x, n-1)
		}
	}
	longer("", 5)
}

func wantSlowTag(t *testing.T, body string) {
	t.Helper()
	want, e := slowGetTag(body)
	got, f := object.GetTag(body)
	if got != want || f != e {
		t.Errorf("GetTag(%.400q): %s, %d; wanted %s, %d", body, show(got), f, show(want), e)
	}
	if e != api.OK {
		return
	}
	if again, e := object.PutTag(got); again != body || e != api.OK {
		t.Errorf("PutTag(%s): %.400q, %d; wanted %.400q", show(got), again, e, body)
	}
}
