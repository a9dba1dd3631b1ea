package object_test

import (
	"fmt"
	"slices"
	"strings"
	"testing"

	"pollard/api"
	"pollard/object"
)

// Promise 7.2, PutCommit and GetCommit: bodies that are written out.
func TestCommitKnown(t *testing.T) {
	wantCommit(t, api.Commit{Tree: idOf(0), Author: "a"},
		"tree "+strings.Repeat("00", 32)+"\nauthor a\ntime 0\n\n")
	wantCommit(t, api.Commit{Tree: idOf('t'), Parents: []string{idOf(0xff)}, Author: "Ann B", Time: 7, Text: "why\n"},
		"tree "+strings.Repeat("74", 32)+"\nparent "+strings.Repeat("ff", 32)+"\nauthor Ann B\ntime 7\n\nwhy\n")
	wantCommit(t, api.Commit{Tree: idOf(1), Parents: []string{idOf(3), idOf(2)}, Author: "ä/x", Time: 1<<64 - 1, Text: "\n\nx"},
		"tree "+strings.Repeat("01", 32)+"\nparent "+strings.Repeat("03", 32)+"\nparent "+strings.Repeat("02", 32)+"\nauthor ä/x\ntime 18446744073709551615\n\n\n\nx")
}

// Promise 7.2: no parents, one, MostParents, in any order; a parent may be the tree's id.
func TestCommitParents(t *testing.T) {
	for n := range api.MostParents + 1 {
		c := ordinary(n)
		wantCommit(t, c, commitBody(c))
		slices.Reverse(c.Parents)
		wantCommit(t, c, commitBody(c))
		c.Parents = append([]string{}, c.Parents...)
		if n > 0 {
			c.Tree = c.Parents[0]
		}
		wantCommit(t, c, commitBody(c))
	}
}

// Promise 7.2: more than MostParents, which comes ahead of what else is wrong with a commit; in a body, ids of another length are of another form, which comes ahead of it.
func TestCommitMuch(t *testing.T) {
	for _, n := range []int{api.MostParents + 1, api.MostParents + 2, 1000} {
		c := ordinary(n)
		wantNoCommit(t, c, api.ErrMuch)
		wantNoCommitRead(t, commitBody(c), api.ErrMuch)
		for _, spoil := range otherCommitFaults() {
			c := ordinary(n)
			spoil(&c)
			wantNoCommit(t, c, api.ErrMuch)
			wantNoCommitRead(t, commitBody(c), api.ErrMuch)
		}
		for _, spoil := range commitIDFaults() {
			c := ordinary(n)
			spoil(&c)
			wantNoCommit(t, c, api.ErrMuch)
			wantNoCommitRead(t, commitBody(c), api.ErrBad)
		}
		wantNoCommit(t, api.Commit{Parents: make([]string, n)}, api.ErrMuch)
	}
	// The form comes ahead of it.
	body := commitBody(ordinary(api.MostParents + 1))
	for _, s := range []string{body[1:], strings.Replace(body, "time", "Time", 1), strings.Replace(body, "\n\n", "\n", 1), strings.Replace(body, "time 7", "time 07", 1), strings.Replace(body, "tree 7", "tree g", 1), strings.Replace(body, "author", "parent", 1)} {
		wantNoCommitRead(t, s, api.ErrBad)
	}
}

// commitIDFaults are ids of another length in a commit of one parent or more.
func commitIDFaults() []func(c *api.Commit) {
	return []func(c *api.Commit){
		func(c *api.Commit) { c.Tree = "t" },
		func(c *api.Commit) { c.Parents[0] = "" },
		func(c *api.Commit) { c.Parents[len(c.Parents)-1] = idOf('p')[1:] },
	}
}

// otherCommitFaults are things that are wrong in a commit of one parent or more, beside its ids' length.
func otherCommitFaults() []func(c *api.Commit) {
	return []func(c *api.Commit){
		func(c *api.Commit) { c.Parents = append(c.Parents, c.Parents[0]) },
		func(c *api.Commit) { c.Author = "" },
		func(c *api.Commit) { c.Text = "\xff" },
		func(c *api.Commit) { c.Text = strings.Repeat("a", api.MostText+1) },
	}
}

// Promise 7.2: each fault alone, and with each other one.
func TestCommitFaults(t *testing.T) {
	faults := append(commitIDFaults(), otherCommitFaults()...)
	for _, one := range faults {
		for _, other := range faults {
			c := ordinary(1)
			one(&c)
			other(&c)
			wantNoCommit(t, c, api.ErrBad)
			wantNoCommitRead(t, commitBody(c), api.ErrBad)
		}
	}
	wantNoCommit(t, api.Commit{}, api.ErrBad)
}

// Promise 7.2: one parent twice, wherever it stands.
func TestCommitTwice(t *testing.T) {
	for n := 2; n <= api.MostParents; n++ {
		for i := range n {
			for j := range i {
				c := ordinary(n)
				c.Parents[i] = c.Parents[j]
				wantNoCommit(t, c, api.ErrBad)
				wantNoCommitRead(t, commitBody(c), api.ErrBad)
			}
		}
	}
}

// Promise 7.2: ids of fewer or more bytes than 32, of the tree and of each parent; in a body they are of another form, however many parents there are.
func TestCommitIDs(t *testing.T) {
	for _, id := range noIDs() {
		for n := range 2*api.MostParents + 1 {
			want := api.ErrBad
			if n > api.MostParents {
				want = api.ErrMuch
			}
			c := ordinary(n)
			c.Tree = id
			wantNoCommit(t, c, want)
			wantNoCommitRead(t, commitBody(c), api.ErrBad)
			for i := range n {
				c := ordinary(n)
				c.Parents[i] = id
				wantNoCommit(t, c, want)
				wantNoCommitRead(t, commitBody(c), api.ErrBad)
			}
		}
	}
	for b := range 256 {
		c := ordinary(0)
		c.Tree, c.Parents = idOf(byte(b)), []string{idOf(byte(b)), idOf(byte(b + 1))}
		wantCommit(t, c, commitBody(c))
	}
}

// Promise 7.2: authors that may be, and that may not.
func TestCommitAuthor(t *testing.T) {
	for _, s := range []string{"a", "Ann", "Ann B", " ", "  ", " a ", "/", "//", "a/b", "/a", "a/", "./", "../", "/.", "/..", "./.", "../..", "...", "a.b", ".a", "ä", "日本", "😀", "-", "<a@b>", "time 7", "author", "\u00a0", "\ufffc", strings.Repeat("a", 64), strings.Repeat("/", 64), strings.Repeat("ä", 32), strings.Repeat("😀", 15) + "/abc"} {
		c := ordinary(1)
		c.Author = s
		wantCommit(t, c, commitBody(c))
	}
	for _, s := range append(noRunes(), "", ".", "..", "\n", "a\nb", "a\n", "\na", "Ann\ntime 7", "\x00", "a\x00", "\t", "\r", "\x1f", "\x7f", "\u0080", "\u0085", "\u009f", "\ufffd", "a/\ufffd", "/\n", "/\xff", "\xc3/", "\xe2/\x82", strings.Repeat("a", 65), strings.Repeat("/", 65), strings.Repeat("ä", 33), "a"+strings.Repeat("ä", 32), strings.Repeat("a", 1<<17)) {
		c := ordinary(1)
		c.Author = s
		wantNoCommit(t, c, api.ErrBad)
		wantNoCommitRead(t, commitBody(c), api.ErrBad)
	}
}

// Promise 7.2: a line's end in an author's name would be read as another commit, and is refused ahead of that.
func TestCommitAuthorLines(t *testing.T) {
	c := ordinary(1)
	c.Author = "Ann\ntime 7\n"
	wantNoCommit(t, c, api.ErrBad)
	if d, e := object.GetCommit(commitBody(c)); d.Author != "Ann" || d.Text != "time 7\n\nwhy\n" || e != api.OK {
		t.Error(show(d), e)
	}
}

// Promise 7.2: runes in an author's name, alone and with others.
func TestCommitAuthorRunes(t *testing.T) {
	runes := []rune{0xd7ff, 0xe000, 0xfffc, 0xfffd, 0xfffe, 0xffff, 0x10000, 0x1f600, 0x10ffff}
	for r := range rune(0x3000) {
		runes = append(runes, r)
	}
	c := ordinary(0)
	for _, r := range runes {
		for _, s := range []string{string(r), "a" + string(r), string(r) + "/"} {
			c.Author = s
			want := slowCheckCommit(c)
			if e := object.CheckCommit(c); e != want {
				t.Errorf("CheckCommit with the author %q: %d; wanted %d", s, e, want)
			}
		}
	}
}

// Promise 7.2: times from 0 to the greatest.
func TestCommitTime(t *testing.T) {
	numbers := []uint64{0, 1, 9, 10, 99, 100, 1<<64 - 1, 1<<64 - 2}
	for i := range 64 {
		numbers = append(numbers, 1<<i, 1<<i-1)
	}
	for _, n := range numbers {
		c := ordinary(2)
		c.Time = n
		wantCommit(t, c, commitBody(c))
	}
	for _, s := range []string{"", "00", "07", "+7", "-7", "-0", " 7", "7 ", "7 7", "7\r", "0x7", "7.0", "7e1", "a", "7a", "٧", "\xff", "7_0", "18446744073709551616", "18446744073709551623", strings.Repeat("9", 100)} {
		wantNoCommitRead(t, strings.Replace(commitBody(ordinary(1)), "time 7", "time "+s, 1), api.ErrBad)
	}
}

// Promise 7.2: texts that may be, and that may not.
func TestCommitText(t *testing.T) {
	for _, s := range someTexts() {
		for _, n := range []int{0, 1, api.MostParents} {
			c := ordinary(n)
			c.Text = s
			wantCommit(t, c, commitBody(c))
		}
	}
	for _, s := range noTexts() {
		c := ordinary(1)
		c.Text = s
		wantNoCommit(t, c, api.ErrBad)
		wantNoCommitRead(t, commitBody(c), api.ErrBad)
	}
}

// commitLines are the lines of a commit of one parent, the empty one and that of the text among them.
func commitLines() []string {
	return strings.SplitAfter(strings.TrimSuffix(commitBody(ordinary(1)), "\n"), "\n")
}

// Promise 7.2, GetCommit: each line that is missing, or is there twice, or in another place.
func TestCommitLines(t *testing.T) {
	l := commitLines()
	if len(l) != 6 {
		t.Fatalf("%q", l)
	}
	for i := range l {
		missing := strings.Join(slices.Delete(slices.Clone(l), i, i+1), "")
		switch l[i][:1] {
		case "p", "w": // a commit may be without a parent, and without a text
			if _, e := object.GetCommit(missing); e != api.OK {
				t.Errorf("GetCommit(%q): %d", missing, e)
			}
		default:
			wantNoCommitRead(t, missing, api.ErrBad)
		}
		twice := strings.Join(slices.Insert(slices.Clone(l), i, l[i]), "")
		if i < 4 {
			wantNoCommitRead(t, twice, api.ErrBad)
		} else if _, e := object.GetCommit(twice); e != api.OK { // they go into the text
			t.Errorf("GetCommit(%q): %d", twice, e)
		}
		for j := range i {
			m := slices.Clone(l)
			m[i], m[j] = m[j], m[i]
			wantNoCommitRead(t, strings.Join(m, ""), api.ErrBad)
		}
	}
	wantNoCommitRead(t, "", api.ErrBad)
	wantNoCommitRead(t, "\n", api.ErrBad)
	wantNoCommitRead(t, "\n\n", api.ErrBad)
}

// Promise 7.2, GetCommit: bytes behind and in front of each line, other words, other digits, other ends.
func TestCommitForms(t *testing.T) {
	l := commitLines()
	with := func(i int, s string) string {
		m := slices.Clone(l)
		m[i] = s
		return strings.Join(m, "")
	}
	for i, s := range l[:4] {
		bare := s[:len(s)-1]
		word, told, _ := strings.Cut(bare, " ")
		forms := []string{" " + s, "\n" + s, "\t" + s, "x" + s, "\x00" + s, bare + "\r\n", bare, bare + "\x00", word + "\n", word + told + "\n", word + "\t" + told + "\n", word + ": " + told + "\n", strings.ToUpper(word) + " " + told + "\n", word + "s " + told + "\n", word[1:] + " " + told + "\n", s + "more x\n", s + " \n"}
		if i != 2 { // behind an author's name a space is one more rune of it
			forms = append(forms, bare+" \n", word+"  "+told+"\n", bare+"x\n", bare+" "+told+"\n", word+" \n")
		}
		if i < 3 { // behind the time an empty line more is the text's
			forms = append(forms, s+"\n")
		}
		if i < 2 {
			forms = append(forms, word+" "+strings.ToUpper(strings.ReplaceAll(told, "7", "a"))+"\n", bare[:len(bare)-1]+"\n", bare+"0\n", bare+"00\n", word+" "+told[:62]+"\n", word+" "+told[:63]+"g\n", word+" "+idOf('i')+"\n")
		}
		for _, form := range forms {
			wantNoCommitRead(t, with(i, form), api.ErrBad)
		}
	}
	for _, form := range []string{" \n", "\r\n", "\x00\n", "x\n", "x", "\r"} {
		wantNoCommitRead(t, with(4, form), api.ErrBad)
	}
	for _, other := range []string{tagBody(ordinaryTag()), "file a\x00" + idOf('i'), rawOf("commit", strings.Join(l, ""))} {
		wantNoCommitRead(t, other, api.ErrBad)
	}
}

// Promise 7.2, GetCommit: bodies of which one byte is another one, or is gone, or is there twice, against what the chapter says; what is read has just these bytes.
func TestCommitSpoilt(t *testing.T) {
	short := api.Commit{Tree: idOf('t'), Author: "ä/", Time: 10, Text: "\n\xc3\xa4"}
	for _, c := range []api.Commit{short, ordinary(2), ordinary(api.MostParents + 1)} {
		for body := range spoilt(commitBody(c)) {
			wantSlowCommit(t, body)
		}
	}
}

// Promise 7.2, GetCommit: bodies put together from lines, in any order, against what the chapter says.
func TestCommitTogether(t *testing.T) {
	l := []string{"tree " + hexOf('t') + "\n", "parent " + hexOf('p') + "\n", "parent " + hexOf('q') + "\n", "parent ab\n", "author a\n", "author \n", "time 1\n", "time 01\n", "\n", "a"}
	var longer func(s string, n int)
	longer = func(s string, n int) {
		wantSlowCommit(t, s)
		if n == 0 {
			return
		}
		for _, x := range l {
			longer(s+x, n-1)
		}
	}
	longer("", 4)
	longer(l[0], 4)
	longer(l[0]+l[1], 4)
	longer(l[0]+strings.Repeat(l[1], api.MostParents), 4)
	longer("tree ab\n"+strings.Repeat(l[1], api.MostParents), 4)
}

func wantSlowCommit(t *testing.T, body string) {
	t.Helper()
	want, e := slowGetCommit(body)
	got, f := object.GetCommit(body)
	if !sameCommit(got, want) || f != e {
		t.Errorf("GetCommit(%.400q): %s, %d; wanted %s, %d", body, show(got), f, show(want), e)
	}
	if e != api.OK {
		return
	}
	if again, e := object.PutCommit(got); again != body || e != api.OK {
		t.Errorf("PutCommit(%s): %.400q, %d; wanted %.400q", show(got), again, e, body)
	}
}

// Rule R1: bodies that are much longer than may be are answered, too.
func TestCommitHuge(t *testing.T) {
	head := "tree " + hexOf('t') + "\n"
	wantNoCommitRead(t, strings.Repeat("a", 1<<22), api.ErrBad)
	wantNoCommitRead(t, head+strings.Repeat("parent \n", 1<<18), api.ErrBad)
	wantNoCommitRead(t, head+strings.Repeat("parent \n", 1<<18)+"author a\ntime 0\n\n", api.ErrBad)
	wantNoCommitRead(t, head+strings.Repeat("parent "+hexOf('p')+"\n", 1<<16)+"author a\ntime 0\n\n", api.ErrMuch)
	wantNoCommitRead(t, head+"author a\ntime 0\n\n"+strings.Repeat("a", 1<<22), api.ErrBad)
	wantNoCommitRead(t, head+"author a\ntime "+strings.Repeat("1", 1<<20)+"\n\n", api.ErrBad)
}

// Rule R2: what is handed in stays as it is, also behind the list's end, and what comes out is the caller's own.
func TestCommitKeeps(t *testing.T) {
	room := append(parents(2), "x", "y")
	c := ordinary(0)
	c.Parents = room[:2]
	body, _ := object.PutCommit(c)
	object.CheckCommit(c)
	if !slices.Equal(room, append(parents(2), "x", "y")) {
		t.Errorf("%q", room)
	}
	d, _ := object.GetCommit(body)
	d.Parents[0], d.Parents[1] = d.Parents[1], ""
	_ = append(d.Parents[:1], "z")
	wantCommit(t, c, body)
	clear(room)
	if body != fmt.Sprintf("tree %x\nparent %x\nparent %x\nauthor Ann\ntime 7\n\nwhy\n", idOf('t'), parents(2)[0], parents(2)[1]) {
		t.Errorf("%q", body)
	}
}
