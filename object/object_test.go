package object_test

import (
	"math"
	"reflect"
	"slices"
	"strconv"
	"strings"
	"testing"

	"confluence/api"
	"confluence/object"
	"confluence/pathmap"
	"confluence/sha"
)

// text is a text of n bytes.
func text(n int) string {
	return strings.Repeat("x", n)
}

// numbered is the path of a number from 0 to 999, of four bytes: they rise as the numbers do.
func numbered(i int) string {
	return "p" + strconv.Itoa(1000 + i)[1:]
}

// put is the change that a text is there, gone the one that none is.
func put(path, text string) api.Change { return api.Change{Path: path, Is: true, Text: text} }
func gone(path string) api.Change      { return api.Change{Path: path} }

// edit is an edit of these changes.
func edit(rows ...api.Change) api.Edit { return api.Edit{Rows: rows} }

// one, two and three are Ids, none is zero.
var (
	one, two, three = api.Id{1}, api.Id{31: 2}, api.Id{3, 31: 3}
	none            = api.Id{}
)

// blob and tree are objects of those Kinds.
func blob(s string) api.Object             { return api.Object{Kind: api.ObjBlob, Text: s} }
func tree(leaves ...api.Leaf) api.Object   { return api.Object{Kind: api.ObjTree, Leaves: leaves} }
func leaf(path string, id api.Id) api.Leaf { return api.Leaf{Path: path, Id: id} }

// manyLeaves are leaves of so many paths of four bytes.
func manyLeaves(n int) []api.Leaf {
	var list []api.Leaf
	for i := range n {
		list = append(list, leaf(numbered(i), one))
	}
	return list
}

// root, plain and merge are commits of those Styles, with no more than they need.
func root() api.Object {
	return api.Object{Kind: api.ObjCommit, Style: api.ComRoot, Tree: one}
}

func plain() api.Object {
	return api.Object{Kind: api.ObjCommit, Style: api.ComPlain, Tree: one, Parents: []api.Id{two}, Number: 1}
}

func merge() api.Object {
	return api.Object{Kind: api.ObjCommit, Style: api.ComMerge, Tree: one, Parents: []api.Id{two, three}, Number: 1}
}

// with is an object to which something was done.
func with(o api.Object, do func(o *api.Object)) api.Object {
	do(&o)
	return o
}

// is fails the test if an error is another one.
func is(t *testing.T, what string, got, want api.Errno) {
	t.Helper()
	if got != want {
		t.Errorf("%s: error %d, not %d", what, got, want)
	}
}

// has fails the test if a list is another one.
func has[R comparable](t *testing.T, what string, got, want []R) {
	t.Helper()
	if !slices.Equal(got, want) {
		t.Errorf("%s: %v, not %v", what, got, want)
	}
}

// behind is how many rows stand behind the end of a list that is roomy.
const behind = 40

// roomy is a list with room behind its end, which is full of what is no row of any.
func roomy[R any](rows []R, odd R) []R {
	whole := slices.Clone(rows)
	for range behind {
		whole = append(whole, odd)
	}
	return whole[:len(rows)]
}

// untouched fails the test if a roomy list, or the room behind its end, is not as it was.
func untouched[R comparable](t *testing.T, what string, rows, were []R, odd R) {
	t.Helper()
	has(t, what+": what was handed in", rows, were)
	for _, r := range rows[len(rows) : len(rows)+behind] {
		if r != odd {
			t.Errorf("%s: the room behind what was handed in: %v", what, r)
		}
	}
}

// What the room is full of.
var (
	oddLeaf   = api.Leaf{Path: "odd", Id: api.Id{9}}
	oddId     = api.Id{9}
	oddChange = api.Change{Path: "odd", Text: "odd"}
	oddRow    = api.Row{Path: "odd", Text: "odd"}
)

// roomyObject is an object whose lists are roomy.
func roomyObject(o api.Object) api.Object {
	o.Leaves, o.Parents, o.Edit.Rows = roomy(o.Leaves, oddLeaf), roomy(o.Parents, oddId), roomy(o.Edit.Rows, oddChange)
	return o
}

// untouchedObject fails the test if a list of an object, or its room, is not as it was.
func untouchedObject(t *testing.T, what string, o, was api.Object) {
	t.Helper()
	untouched(t, what+": Leaves", o.Leaves, was.Leaves, oddLeaf)
	untouched(t, what+": Parents", o.Parents, was.Parents, oddId)
	untouched(t, what+": Edit", o.Edit.Rows, was.Edit.Rows, oddChange)
}

// scribble fills lists, and the room behind their ends, with zeros.
func scribble(o api.Object) {
	clear(o.Leaves[:cap(o.Leaves)])
	clear(o.Parents[:cap(o.Parents)])
	clear(o.Edit.Rows[:cap(o.Edit.Rows)])
}

// same tells whether two objects are the same, whatever the program says of it.
func same(a, b api.Object) bool {
	for _, o := range []*api.Object{&a, &b} {
		o.Leaves, o.Parents = append([]api.Leaf{}, o.Leaves...), append([]api.Id{}, o.Parents...)
		o.Edit.Rows = append([]api.Change{}, o.Edit.Rows...)
	}
	return reflect.DeepEqual(a, b)
}

// asModel asks each call of an object, and holds the answers against the model; what is handed in stays, and is not kept.
func asModel(t *testing.T, what string, o api.Object) {
	t.Helper()
	if t.Failed() {
		return // one fault is enough to read
	}
	var want []byte
	var wantId api.Id
	err := api.ErrObject
	if modelMay(o) {
		want, err = modelBytes(o), api.OK
		wantId = sha.Sum(want)
	}
	in := roomyObject(o)
	for range 2 {
		is(t, what+": Check", object.Check(in), err)
		b, no := object.Encode(in)
		is(t, what+": Encode", no, err)
		id, no := object.Id(in)
		is(t, what+": Id", no, err)
		if id != wantId {
			t.Errorf("%s: Id %v, not %v", what, id, wantId)
		}
		links := object.Links(in)
		if !object.Same(in, o) || !object.Same(o, in) {
			t.Errorf("%s: not the same as itself", what)
		}
		untouchedObject(t, what, in, o)
		scribble(in)
		has(t, what+": Encode", b, want)
		has(t, what+": Links", links, modelLinks(o))
		// The second time what was answered first has been written over.
		in = roomyObject(o)
		clear(b[:cap(b)])
		clear(links[:cap(links)])
		untouchedObject(t, what, in, o)
	}
	if err == api.OK {
		decodes(t, what, want)
	}
}

// may and mayNot fail the test if an object may not be, or may: in all calls, and by the model too.
func may(t *testing.T, what string, o api.Object) {
	t.Helper()
	is(t, what, object.Check(o), api.OK)
	asModel(t, what, o)
}

func mayNot(t *testing.T, what string, o api.Object) {
	t.Helper()
	is(t, what, object.Check(o), api.ErrObject)
	asModel(t, what, o)
}

// decodes fails the test if Decode answers something else than the model, changes the bytes, or keeps them; and if Encode does not lead back.
func decodes(t *testing.T, what string, b []byte) {
	t.Helper()
	if t.Failed() {
		return // one fault is enough to read
	}
	want, err := modelDecode(b)
	in := roomy(b, 0xaa)
	got, no := object.Decode(in)
	if no != err {
		t.Errorf("%s: Decode of %x: error %d, not %d", what, b, no, err)
	}
	untouched(t, what+": Decode", in, b, 0xaa)
	clear(in[:cap(in)])
	if !same(got, want) {
		t.Errorf("%s: Decode of %x: %v, not %v", what, b, got, want)
	}
	if err != api.OK {
		return
	}
	again, no := object.Encode(got)
	is(t, what+": Encode of Decode", no, api.OK)
	has(t, what+": Encode of Decode", again, b)
	scribble(got)
	has(t, what+": the room of what was handed in", in[:cap(in)], make([]byte, cap(in)))
	if other, _ := object.Decode(b); !same(other, want) {
		t.Errorf("%s: Decode of %x again: %v, not %v", what, b, other, want)
	}
}

// says fails the test if Decode does not answer just that error, by the model too.
func says(t *testing.T, what string, b []byte, want api.Errno) {
	t.Helper()
	_, err := object.Decode(b)
	is(t, what+": Decode", err, want)
	decodes(t, what, b)
}

// divides fails the test if Parts answers something else, changes the map, or keeps it.
func divides(t *testing.T, what string, m api.Map, want []api.Held, err api.Errno) {
	t.Helper()
	if t.Failed() {
		return // one fault is enough to read
	}
	what += ": Parts"
	in := api.Map{Rows: roomy(m.Rows, oddRow)}
	got, no := object.Parts(in)
	is(t, what, no, err)
	untouched(t, what, in.Rows, m.Rows, oddRow)
	clear(in.Rows[:cap(in.Rows)])
	for range 2 {
		if len(got) != len(want) {
			t.Fatalf("%s: %d parts, not %d", what, len(got), len(want))
		}
		for i, h := range got {
			if h.Id != want[i].Id || !same(h.Object, want[i].Object) {
				t.Errorf("%s: part %d is %v, not %v", what, i, h, want[i])
			}
			if id, no := object.Id(h.Object); no != api.OK || id != h.Id {
				t.Errorf("%s: the Id of part %d is %v, not %v", what, i, h.Id, id)
			}
		}
		follows(t, what, got)
		for _, h := range got {
			scribble(h.Object)
		}
		got, _ = object.Parts(m)
	}
}

// follows fails the test if the last part is no tree, or leads to what is not among the others.
func follows(t *testing.T, what string, parts []api.Held) {
	t.Helper()
	if len(parts) == 0 {
		return
	}
	others, last := parts[:len(parts)-1], parts[len(parts)-1]
	if last.Object.Kind != api.ObjTree {
		t.Errorf("%s: the last part is of Kind %d", what, last.Object.Kind)
	}
	for _, id := range object.Links(last.Object) {
		if !slices.ContainsFunc(others, func(h api.Held) bool { return h.Id == id }) {
			t.Errorf("%s: %v is led to, and is not there", what, id)
		}
	}
}

// mapOf is a map of a path, a text, a path, a text.
func mapOf(parts ...string) api.Map {
	var m api.Map
	for i := 0; i < len(parts); i += 2 {
		m.Rows = append(m.Rows, api.Row{Path: parts[i], Text: parts[i+1]})
	}
	return m
}

// held is an object that may be, and its Id.
func held(o api.Object) api.Held {
	return api.Held{Id: sha.Sum(modelBytes(o)), Object: o}
}

// P6.1 to P6.3: the chapter's examples.
func TestExamples(t *testing.T) {
	b, err := object.Encode(blob("hi"))
	is(t, "blob hi", err, api.OK)
	has(t, "blob hi", b, []byte("\x01\x00\x02hi"))
	b, err = object.Encode(tree())
	is(t, "tree without leaves", err, api.OK)
	has(t, "tree without leaves", b, []byte{2, 0})
	o, err := object.Decode([]byte{2, 0})
	if err != api.OK || !same(o, tree()) {
		t.Errorf("Decode of 02 00: %v, error %d", o, err)
	}
	says(t, "02 01", []byte{2, 1}, api.ErrShort)
	says(t, "no list", nil, api.ErrShort)
	says(t, "an empty list", []byte{}, api.ErrShort)
	says(t, "04", []byte{4}, api.ErrObject)
	says(t, "01 00 00 00", []byte{1, 0, 0, 0}, api.ErrObject)
	id := sha.Sum([]byte("\x01\x00\x011"))
	divides(t, "a: 1, b: 1", mapOf("a", "1", "b", "1"), []api.Held{held(blob("1")), held(tree(leaf("a", id), leaf("b", id)))}, api.OK)
	divides(t, "no rows", api.Map{}, []api.Held{held(tree())}, api.OK)
	mayNot(t, "a plain commit with two parents", with(plain(), func(o *api.Object) { o.Parents = []api.Id{one, two} }))
	mayNot(t, "a merge of the same twice", with(merge(), func(o *api.Object) { o.Parents = []api.Id{one, one} }))
}

// P6.1: Kinds; those beyond a byte too, of which the lowest byte is a Kind.
func TestKinds(t *testing.T) {
	may(t, "a blob", blob(""))
	may(t, "a tree", tree())
	for _, kind := range []int{math.MinInt, -255, -1, 0, 4, 5, 255, 256, 257, 258, 259, math.MaxInt} {
		what := "Kind " + strconv.Itoa(kind)
		for _, o := range []api.Object{{}, blob("hi"), tree(leaf("a", one)), root(), plain(), merge()} {
			o.Kind = kind
			mayNot(t, what, o)
		}
		if kind >= 0 && kind < 256 {
			says(t, what, []byte{byte(kind)}, api.ErrObject)
			says(t, what+", and more", []byte{byte(kind), 0, 0}, api.ErrObject)
		}
	}
	for _, kind := range []int{api.ObjBlob, api.ObjTree, api.ObjCommit} {
		for _, o := range []api.Object{blob("hi"), tree(leaf("a", one)), root(), plain(), merge()} {
			if o.Kind != kind {
				o.Kind = kind
				mayNot(t, "Kind "+strconv.Itoa(kind)+" of something else", o)
			}
		}
	}
	mayNot(t, "a commit of nothing", api.Object{Kind: api.ObjCommit})
}

// P6.1: Styles; those beyond a byte too, of which the lowest byte is a Style.
func TestStyles(t *testing.T) {
	may(t, "a root", root())
	may(t, "a plain commit", plain())
	may(t, "a merge", merge())
	for _, style := range []int{math.MinInt, -1, 0, 1, 2, 3, 4, 255, 256, 257, 258, 259, math.MaxInt} {
		for _, o := range []api.Object{root(), plain(), merge()} {
			if o.Style == style {
				continue
			}
			what := "a commit of Style " + strconv.Itoa(o.Style) + " as one of Style " + strconv.Itoa(style)
			o.Style = style
			mayNot(t, what, o)
			if style >= 0 && style < 256 {
				says(t, what, modelBytes(o), api.ErrObject)
			}
		}
	}
}

// P6.1: each field that does not count, of each Kind and Style.
func TestFieldsThatDoNotCount(t *testing.T) {
	fields := map[string]func(o *api.Object){
		"Text":    func(o *api.Object) { o.Text = "x" },
		"Leaves":  func(o *api.Object) { o.Leaves = manyLeaves(1) },
		"Style":   func(o *api.Object) { o.Style = api.ComRoot },
		"Tree":    func(o *api.Object) { o.Tree = one },
		"Base":    func(o *api.Object) { o.Base = api.Id{31: 1} },
		"Parents": func(o *api.Object) { o.Parents = []api.Id{two} },
		"Edit":    func(o *api.Object) { o.Edit = edit(put("a", "")) },
		"Number":  func(o *api.Object) { o.Number = 1 },
		"Author":  func(o *api.Object) { o.Author = 1 },
		"Note":    func(o *api.Object) { o.Note = "x" },
	}
	commit := []string{"Style", "Tree", "Author", "Note"}
	for _, x := range []struct {
		what   string
		o      api.Object
		counts []string
	}{
		{"a blob", blob("hi"), []string{"Text"}},
		{"a blob without a text", blob(""), []string{"Text"}},
		{"a tree", tree(leaf("a", one)), []string{"Leaves"}},
		{"a tree without leaves", tree(), []string{"Leaves"}},
		{"a root", root(), commit},
		{"a plain commit", plain(), append([]string{"Parents", "Edit", "Number"}, commit...)},
		{"a merge", merge(), append([]string{"Parents", "Base", "Edit", "Number"}, commit...)},
	} {
		may(t, x.what, x.o)
		for field, fill := range fields {
			if !slices.Contains(x.counts, field) {
				mayNot(t, x.what+" with "+field, with(x.o, fill))
			}
		}
		empty := with(x.o, func(o *api.Object) {
			if len(o.Leaves) == 0 {
				o.Leaves = []api.Leaf{}
			}
			if len(o.Parents) == 0 {
				o.Parents = []api.Id{}
			}
			if len(o.Edit.Rows) == 0 {
				o.Edit.Rows = []api.Change{}
			}
		})
		may(t, x.what+" with empty lists", empty)
	}
	mayNot(t, "a root with a zero parent", with(root(), func(o *api.Object) { o.Parents = []api.Id{none} }))
	mayNot(t, "a blob with a zero parent", with(blob(""), func(o *api.Object) { o.Parents = []api.Id{none} }))
	mayNot(t, "a blob with a zero leaf", with(blob(""), func(o *api.Object) { o.Leaves = []api.Leaf{{}} }))
	mayNot(t, "a blob with a zero change", with(blob(""), func(o *api.Object) { o.Edit = edit(api.Change{}) }))
}

// P6.1, P6.2: texts of 256 and 257 bytes, of a blob and of an edit; such too whose length does not lie in two bytes.
func TestTexts(t *testing.T) {
	for _, n := range []int{0, 1, 2, 255, 256, 257, 258, 300, 65535, 65536, 65537, 65538, 1 << 20} {
		what := "a text of " + strconv.Itoa(n) + " bytes"
		check := mayNot
		if n <= 256 {
			check = may
		}
		check(t, what, blob(text(n)))
		for _, o := range []api.Object{plain(), merge()} {
			check(t, what+" in an edit", with(o, func(o *api.Object) { o.Edit = edit(put("a", text(n))) }))
		}
	}
	says(t, "257 bytes", []byte("\x01\x01\x01"+text(257)), api.ErrObject)
	says(t, "256 bytes", []byte("\x01\x01\x00"+text(256)), api.OK)
	all := make([]byte, 256)
	for i := range all {
		all[i] = byte(i)
	}
	may(t, "each byte", blob(string(all)))
}

// P6.1, P6.2: trees of few leaves and of many; paths and Ids that may not be, in each place.
func TestTrees(t *testing.T) {
	for _, n := range []int{0, 1, 2, 20, 21} {
		may(t, strconv.Itoa(n)+" leaves", tree(manyLeaves(n)...))
	}
	for _, n := range []int{22, 31, 32, 33, 34, 255, 256, 257, 258, 900} {
		mayNot(t, strconv.Itoa(n)+" leaves", tree(manyLeaves(n)...))
	}
	for n := range 22 {
		for i := range n {
			what := strconv.Itoa(n) + " leaves, at place " + strconv.Itoa(i)
			change := func(do func(l *api.Leaf)) api.Object {
				list := manyLeaves(n)
				do(&list[i])
				return tree(list...)
			}
			mayNot(t, what+" no Id", change(func(l *api.Leaf) { l.Id = none }))
			may(t, what+" the least Id", change(func(l *api.Leaf) { l.Id = api.Id{31: 1} }))
			for _, path := range []string{"", " ", "a b", "\x7f", "é", text(49), "a\n", text(300)} {
				mayNot(t, what+" the path "+strconv.Quote(path), change(func(l *api.Leaf) { l.Path = path }))
			}
			if i > 0 {
				mayNot(t, what+" the path ahead of it", change(func(l *api.Leaf) { l.Path = numbered(i - 1) }))
				mayNot(t, what+" a path that falls", change(func(l *api.Leaf) { l.Path = "!" }))
			}
		}
	}
	for _, path := range []string{"!", "~", text(47), text(48)} {
		may(t, "the path "+path, tree(leaf(path, one)))
	}
	mayNot(t, "one twice, apart", tree(leaf("a", one), leaf("b", one), leaf("a", one)))
	mayNot(t, "one twice, unlike", tree(leaf("a", one), leaf("a", two)))
	may(t, "three of one Id", tree(leaf("a", one), leaf("aa", one), leaf("b", one)))
	has(t, "a tree's bytes", must(object.Encode(tree(leaf("a", one), leaf("bc", two)))), slices.Concat([]byte{2, 2, 1, 'a'}, one[:], []byte{2, 'b', 'c'}, two[:]))
	has(t, "a tree's links", object.Links(tree(leaf("a", two), leaf("b", one), leaf("c", two))), []api.Id{two, one, two})
}

// must is what goes with OK.
func must(b []byte, err api.Errno) []byte {
	if err != api.OK {
		return nil
	}
	return b
}

// P6.1, P6.2: parents, too few and too many, the same and zero ones; a Tree; a Base; a Number; an Author.
func TestCommits(t *testing.T) {
	four := api.Id{4}
	for _, parents := range [][]api.Id{nil, {}, {two}, {none}, {two, three}, {three, two}, {two, two}, {none, two}, {two, none}, {none, none}, {two, three, four}, {two, three, two}, {two, three, none}} {
		right := !slices.Contains(parents, none) && (len(parents) < 2 || parents[0] != parents[1])
		for _, o := range []api.Object{root(), plain(), merge()} {
			o.Parents = parents
			check := mayNot
			if len(parents) == o.Style-1 && right {
				check = may
			}
			check(t, "Style "+strconv.Itoa(o.Style)+" with "+strconv.Itoa(len(parents))+" parents", o)
		}
	}
	for _, n := range []int{255, 256, 257, 258} {
		for _, o := range []api.Object{root(), plain(), merge()} {
			o.Parents = slices.Repeat([]api.Id{two}, n)
			mayNot(t, strconv.Itoa(n)+" parents", o)
		}
	}
	for _, o := range []api.Object{root(), plain(), merge()} {
		what := "Style " + strconv.Itoa(o.Style)
		mayNot(t, what+" without a Tree", with(o, func(o *api.Object) { o.Tree = none }))
		may(t, what+" with the Tree of a parent", with(o, func(o *api.Object) { o.Tree = two }))
		based, numbered := mayNot, may
		if o.Style == api.ComMerge {
			based = may
		}
		if o.Style == api.ComRoot {
			numbered = mayNot
		}
		for _, base := range []api.Id{one, two, {31: 1}, four} {
			based(t, what+" with a Base", with(o, func(o *api.Object) { o.Base = base }))
		}
		for _, n := range []uint32{1, 2, 255, 256, 65536, 1 << 24, math.MaxUint32} {
			numbered(t, what+" with a Number above 0", with(o, func(o *api.Object) { o.Number = n }))
			may(t, what+" with an Author", with(o, func(o *api.Object) { o.Author = n }))
		}
	}
	mayNot(t, "a plain commit of Number 0", with(plain(), func(o *api.Object) { o.Number = 0 }))
	mayNot(t, "a merge of Number 0", with(merge(), func(o *api.Object) { o.Number = 0 }))
}

// P6.1: notes of 200 and 201 bytes, and such whose length does not lie in a byte.
func TestNotes(t *testing.T) {
	for _, n := range []int{0, 1, 199, 200, 201, 255, 256, 257, 300, 1 << 20} {
		check := mayNot
		if n <= 200 {
			check = may
		}
		for _, o := range []api.Object{root(), plain(), merge()} {
			check(t, "a note of "+strconv.Itoa(n)+" bytes", with(o, func(o *api.Object) { o.Note = text(n) }))
		}
	}
	may(t, "a note of any bytes", with(root(), func(o *api.Object) { o.Note = "\x00\xff\n é" }))
}

// P6.1: edits that may be, and that may not.
func TestEdits(t *testing.T) {
	for _, e := range []api.Edit{edit(), edit(put("a", "")), edit(gone("a")), edit(gone("a"), put("b", "1"), gone("c")), edit(put(text(48), text(256)))} {
		may(t, "a plain commit with an edit", with(plain(), func(o *api.Object) { o.Edit = e }))
		may(t, "a merge with an edit", with(merge(), func(o *api.Object) { o.Edit = e }))
		if len(e.Rows) > 0 {
			mayNot(t, "a root with an edit", with(root(), func(o *api.Object) { o.Edit = e }))
		}
	}
	long := func(n int) api.Edit {
		var e api.Edit
		for i := range n {
			e.Rows = append(e.Rows, gone(numbered(i)))
		}
		return e
	}
	for _, o := range []api.Object{plain(), merge()} {
		for _, e := range []api.Edit{
			edit(put("", "1")), edit(gone("")), edit(put("a b", "")), edit(put(text(49), "")), edit(put("a", text(257))),
			edit(api.Change{Path: "a", Text: "1"}), edit(put("b", ""), put("a", "")), edit(gone("a"), gone("a")), edit(gone("a"), put("a", "1")),
			edit(gone("a"), api.Change{Path: "b", Text: "1"}), long(33), long(256), long(257),
		} {
			mayNot(t, "an edit that may not be", with(o, func(o *api.Object) { o.Edit = e }))
		}
		may(t, "an edit of 32 rows", with(o, func(o *api.Object) { o.Edit = long(32) }))
	}
}

// P6.1, P6.2: objects of 800 and of 801 bytes.
func TestHowManyBytes(t *testing.T) {
	leaves := manyLeaves(21)
	for n := 30; n < 40; n++ {
		leaves[20].Path = "q" + text(n-1)
		o, check := tree(slices.Clone(leaves)...), mayNot
		if 2+20*37+33+n <= 800 {
			check = may
		}
		check(t, "a tree of "+strconv.Itoa(len(modelBytes(o)))+" bytes", o)
	}
	for _, o := range []api.Object{plain(), merge()} {
		o.Note = text(200)
		o.Edit = edit(put("a", text(256)), put("b", ""), gone("c"))
		left := 800 - len(modelBytes(o))
		for n := left - 3; n <= left+3; n++ {
			o.Edit = edit(put("a", text(256)), put("b", text(n)), gone("c"))
			check := mayNot
			if n <= left {
				check = may
			}
			check(t, "a commit of "+strconv.Itoa(800-left+n)+" bytes", o)
			_, err := object.Decode(modelBytes(o))
			if (err == api.OK) != (n <= left) || n > left && err != api.ErrObject {
				t.Errorf("Decode of %d bytes: error %d", 800-left+n, err)
			}
		}
	}
	full := with(tree(manyLeaves(20)...), func(o *api.Object) { o.Leaves = append(o.Leaves, leaf("q"+text(24), one)) })
	has(t, "length", []int{len(must(object.Encode(full)))}, []int{800})
	full.Leaves[20].Path += "x"
	mayNot(t, "a tree of 801 bytes", full)
	wide := with(merge(), func(o *api.Object) {
		for i := range 32 {
			o.Edit.Rows = append(o.Edit.Rows, put(numbered(i), text(256)))
		}
	})
	mayNot(t, "a merge with a long edit", wide)
	says(t, "a merge with a long edit", modelBytes(wide), api.ErrObject)
}

// P6.2: the bytes of commits, written down one by one.
func TestBytesOfCommits(t *testing.T) {
	o := merge()
	o.Base, o.Number, o.Author, o.Note = api.Id{7}, 0x01020304, 0xa0b0c0d0, "no"
	o.Edit = edit(put("a", "xyz"), gone("bc"))
	want := slices.Concat([]byte{3, 3}, one[:], []byte{2}, two[:], three[:], o.Base[:],
		[]byte{2, 1, 'a', 1, 0, 3, 'x', 'y', 'z', 2, 'b', 'c', 0, 0, 0, 1, 2, 3, 4, 0xa0, 0xb0, 0xc0, 0xd0, 2, 'n', 'o'})
	has(t, "a merge", must(object.Encode(o)), want)
	id, err := object.Id(o)
	if err != api.OK || id != sha.Sum(want) {
		t.Errorf("the Id of a merge: %v, error %d", id, err)
	}
	got, err := object.Decode(want)
	if err != api.OK || !same(got, o) {
		t.Errorf("Decode of a merge: %v, error %d", got, err)
	}
	has(t, "a merge's links", object.Links(o), []api.Id{one, two, three})
	want = slices.Concat([]byte{3, 1}, one[:], []byte{0}, none[:], make([]byte, 1+4+4+1))
	has(t, "a root", must(object.Encode(root())), want)
	has(t, "a root's links", object.Links(root()), []api.Id{one})
	want = slices.Concat([]byte{3, 2}, one[:], []byte{1}, two[:], none[:], []byte{0, 0, 0, 0, 1, 0, 0, 0, 0, 0})
	has(t, "a plain commit", must(object.Encode(plain())), want)
	has(t, "a plain commit's links", object.Links(plain()), []api.Id{one, two})
	has(t, "a long text", must(object.Encode(blob(text(256)))), []byte("\x01\x01\x00"+text(256)))
}

// various are objects that may be, of all Kinds and Styles, small ones and such of 800 bytes.
func various() []api.Object {
	list := []api.Object{blob(""), blob("hi"), blob(text(256)), tree(), tree(leaf("a", one)), tree(leaf("a", one), leaf("bc", two)), root(), plain(), merge()}
	full := tree(manyLeaves(20)...)
	full.Leaves = append(full.Leaves, leaf("q"+text(24), one))
	noted := with(root(), func(o *api.Object) { o.Author, o.Note = 5, "a note" })
	changed := with(plain(), func(o *api.Object) { o.Edit, o.Number = edit(put("a", "1"), gone("b"), put("c", "")), 300 })
	based := with(merge(), func(o *api.Object) { o.Base, o.Edit, o.Note = one, edit(gone("a")), text(200) })
	return append(list, full, noted, changed, based)
}

// P6.2, P6.4: bytes that are cut off at each place, with one more behind, and with more.
func TestBytesCutOff(t *testing.T) {
	for i, o := range various() {
		what, b := "object "+strconv.Itoa(i), modelBytes(o)
		may(t, what, o)
		for n := range b {
			says(t, what+" of "+strconv.Itoa(n)+" bytes", b[:n:n], api.ErrShort)
		}
		for _, more := range [][]byte{{0}, {1}, {2, 0}, b, make([]byte, 1000)} {
			says(t, what+" with more behind", slices.Concat(b, more), api.ErrObject)
		}
	}
}

// P6.2: each single byte changed: to all others in small objects, to some in great ones.
func TestBytesChanged(t *testing.T) {
	for i, o := range various() {
		b := modelBytes(o)
		for place := range b {
			for x := range 256 {
				if len(b) > 120 && x > 3 && x < 255 && x != int(b[place])+1 && x != int(b[place])-1 {
					continue
				}
				bent := slices.Clone(b)
				bent[place] = byte(x)
				decodes(t, "object "+strconv.Itoa(i)+", byte "+strconv.Itoa(place), bent)
			}
		}
	}
}

// P6.2: lengths that promise more than there is are ErrShort, even where what they promise may not be; with all that is promised they are ErrObject.
func TestLengthsThatPromise(t *testing.T) {
	head := slices.Concat([]byte{3, 2}, one[:])
	parent := slices.Concat(head, []byte{1}, two[:], none[:])
	for _, x := range []struct {
		what string
		b    []byte
	}{
		{"a text of 65535 bytes", []byte{1, 255, 255}},
		{"a text of 257 bytes", append([]byte{1, 1, 1}, make([]byte, 256)...)},
		{"255 leaves", []byte{2, 255}},
		{"33 leaves of which one is there", slices.Concat([]byte{2, 33, 1, 'a'}, one[:])},
		{"a path of 255 bytes", []byte{2, 1, 255, 'a'}},
		{"a path of none, and no Id", []byte{2, 1, 0}},
		{"an Id cut off", slices.Concat([]byte{2, 1, 1, 'a'}, one[:31])},
		{"two leaves that fall, the second cut off", slices.Concat([]byte{2, 2, 1, 'b'}, one[:], []byte{1, 'a'})},
		{"no Style", []byte{3}},
		{"a Style that is none", []byte{3, 9}},
		{"a zero Tree", append([]byte{3, 1}, make([]byte, 32)...)},
		{"255 parents", slices.Concat(head, []byte{255})},
		{"three parents of which two are there", slices.Concat(head, []byte{3}, one[:], two[:])},
		{"255 rows", slices.Concat(parent, []byte{255})},
		{"a row with a long path", slices.Concat(parent, []byte{1, 200, 'a'})},
		{"an Is of 2, and no text", slices.Concat(parent, []byte{1, 1, 'a', 2})},
		{"a row with a long text", slices.Concat(parent, []byte{1, 1, 'a', 1, 255, 255, 'x'})},
		{"no Number", slices.Concat(parent, []byte{0})},
		{"half a Number", slices.Concat(parent, []byte{0, 0, 0})},
		{"no Author", slices.Concat(parent, []byte{0, 0, 0, 0, 1})},
		{"no note", slices.Concat(parent, []byte{0, 0, 0, 0, 1, 0, 0, 0, 0})},
		{"a note of 255 bytes", slices.Concat(parent, []byte{0, 0, 0, 0, 1, 0, 0, 0, 0, 255, 'x'})},
	} {
		says(t, x.what, x.b, api.ErrShort)
	}
	for _, x := range []struct {
		what string
		b    []byte
	}{
		{"a text of 65535 bytes", append([]byte{1, 255, 255}, make([]byte, 65535)...)},
		{"33 leaves", append([]byte{2, 33}, make([]byte, 33*33)...)},
		{"a leaf with no path", slices.Concat([]byte{2, 1, 0}, one[:])},
		{"a zero commit", append([]byte{3}, make([]byte, 76)...)},
		{"255 parents", slices.Concat(head, []byte{255}, make([]byte, 255*32+32+10))},
	} {
		says(t, x.what, x.b, api.ErrObject)
	}
}

// P6.2: what says whether a text is there is 0 or 1; if it is 0, there is no text.
func TestIs(t *testing.T) {
	for x := range 256 {
		for _, s := range []string{"", "1"} {
			row := slices.Concat([]byte{1, 1, 'a', byte(x), 0, byte(len(s))}, []byte(s))
			b := slices.Concat([]byte{3, 2}, one[:], []byte{1}, two[:], none[:], row, []byte{0, 0, 0, 1, 0, 0, 0, 0, 0})
			want := api.ErrObject
			if x == 1 || x == 0 && s == "" {
				want = api.OK
			}
			says(t, "Is "+strconv.Itoa(x)+" with the text "+s, b, want)
		}
	}
}

// P6.3: links of what leads to nothing, and of what may not be.
func TestLinks(t *testing.T) {
	has(t, "a blob", object.Links(blob("hi")), nil)
	has(t, "a tree without leaves", object.Links(tree()), nil)
	has(t, "nothing", object.Links(api.Object{}), nil)
	has(t, "a merge backwards", object.Links(with(merge(), func(o *api.Object) { o.Parents = []api.Id{three, two} })), []api.Id{one, three, two})
	has(t, "a merge with a Base", object.Links(with(merge(), func(o *api.Object) { o.Base = api.Id{9} })), []api.Id{one, two, three})
	for _, o := range []api.Object{
		tree(leaf("b", one), leaf("a", two)),
		tree(leaf("a", one), leaf("b", none)),
		tree(manyLeaves(22)...),
		with(tree(leaf("a", one)), func(o *api.Object) { o.Text = "x" }),
		with(tree(leaf("a", one)), func(o *api.Object) { o.Kind = 4 }),
		with(plain(), func(o *api.Object) { o.Parents = []api.Id{two, three} }),
		with(plain(), func(o *api.Object) { o.Number = 0 }),
		with(root(), func(o *api.Object) { o.Style = 0 }),
		with(blob("hi"), func(o *api.Object) { o.Tree = one }),
		with(blob("hi"), func(o *api.Object) { o.Leaves = manyLeaves(1) }),
	} {
		mayNot(t, "no links", o)
		has(t, "links of what may not be", object.Links(o), nil)
	}
}

// P6.1: objects that differ in one field, and in no field; such too that may not be.
func TestSame(t *testing.T) {
	whole := api.Object{Kind: 9, Text: "t", Leaves: []api.Leaf{leaf("b", one), leaf("a", none)}, Style: -1, Tree: one, Base: two, Parents: []api.Id{two, two, none}, Edit: edit(gone("a"), api.Change{Path: "", Text: "x"}), Number: 1, Author: 2, Note: text(300)}
	for i, change := range []func(o *api.Object){
		func(o *api.Object) { o.Kind = 1 },
		func(o *api.Object) { o.Text = "u" },
		func(o *api.Object) { o.Leaves = nil },
		func(o *api.Object) { o.Leaves = o.Leaves[:1] },
		func(o *api.Object) { o.Leaves = []api.Leaf{leaf("a", none), leaf("b", one)} },
		func(o *api.Object) { o.Leaves = []api.Leaf{leaf("b", one), leaf("a", one)} },
		func(o *api.Object) { o.Leaves = []api.Leaf{leaf("b", one), leaf("", none)} },
		func(o *api.Object) { o.Style = 1 },
		func(o *api.Object) { o.Tree = two },
		func(o *api.Object) { o.Tree[31] = 1 },
		func(o *api.Object) { o.Base = one },
		func(o *api.Object) { o.Parents = nil },
		func(o *api.Object) { o.Parents = []api.Id{two, two} },
		func(o *api.Object) { o.Parents = []api.Id{two, one, none} },
		func(o *api.Object) { o.Edit = api.Edit{} },
		func(o *api.Object) { o.Edit = edit(gone("a"), api.Change{Path: "", Is: true, Text: "x"}) },
		func(o *api.Object) { o.Edit = edit(gone("a"), api.Change{Path: ""}) },
		func(o *api.Object) { o.Edit = edit(gone("b"), api.Change{Path: "", Text: "x"}) },
		func(o *api.Object) { o.Number = 0 },
		func(o *api.Object) { o.Author = 1 },
		func(o *api.Object) { o.Note = text(299) },
	} {
		other := with(roomyObject(whole), change)
		if object.Same(whole, other) || object.Same(other, whole) {
			t.Errorf("Same of two objects that differ, number %d", i)
		}
	}
	if !object.Same(whole, roomyObject(whole)) {
		t.Errorf("Same of the same")
	}
	empty := api.Object{Leaves: []api.Leaf{}, Parents: []api.Id{}, Edit: edit([]api.Change{}...)}
	empty.Edit.Rows = []api.Change{}
	if !object.Same(api.Object{}, empty) || !object.Same(empty, api.Object{}) {
		t.Errorf("Same of no lists and of empty ones")
	}
	list := various()
	for i, a := range list {
		for k, b := range list {
			if object.Same(a, b) != (i == k) {
				t.Errorf("Same of the objects %d and %d: %v", i, k, i != k)
			}
		}
	}
}

// P6.3: texts that stand once, twice and apart; the order of blobs is that of the rows.
func TestParts(t *testing.T) {
	divides(t, "an empty list", api.Map{Rows: []api.Row{}}, []api.Held{held(tree())}, api.OK)
	x, y, z := held(blob("x")), held(blob("y")), held(blob(""))
	divides(t, "one row", mapOf("a", "x"), []api.Held{x, held(tree(leaf("a", x.Id)))}, api.OK)
	divides(t, "falling texts", mapOf("a", "y", "b", "x"), []api.Held{y, x, held(tree(leaf("a", y.Id), leaf("b", x.Id)))}, api.OK)
	divides(t, "an empty text", mapOf("a", "", "b", "x", "c", ""), []api.Held{z, x, held(tree(leaf("a", z.Id), leaf("b", x.Id), leaf("c", z.Id)))}, api.OK)
	divides(t, "one apart", mapOf("a", "x", "b", "y", "c", "x", "d", "y"), []api.Held{x, y, held(tree(leaf("a", x.Id), leaf("b", y.Id), leaf("c", x.Id), leaf("d", y.Id)))}, api.OK)
	divides(t, "one next to itself", mapOf("a", "x", "b", "x", "c", "y"), []api.Held{x, y, held(tree(leaf("a", x.Id), leaf("b", x.Id), leaf("c", y.Id)))}, api.OK)
	long := held(blob(text(256)))
	divides(t, "a long text", mapOf(text(48), text(256)), []api.Held{long, held(tree(leaf(text(48), long.Id)))}, api.OK)
	bytes := string(modelBytes(tree()))
	odd := held(blob(bytes))
	divides(t, "a tree's bytes as a text", mapOf("a", bytes), []api.Held{odd, held(tree(leaf("a", odd.Id)))}, api.OK)
}

// P6.3: maps that may not be, even where the tree would be too long.
func TestPartsOfWhatMayNotBe(t *testing.T) {
	long := api.Map{}
	for i := range 33 {
		long.Rows = append(long.Rows, api.Row{Path: numbered(i)})
	}
	spoilt := api.Map{Rows: slices.Clone(long.Rows[:32])}
	spoilt.Rows[31].Path = spoilt.Rows[0].Path
	for _, m := range []api.Map{
		mapOf("", "1"), mapOf("a b", "1"), mapOf(text(49), "1"), mapOf("a", text(257)), mapOf("b", "", "a", ""), mapOf("a", "1", "a", "1"), mapOf("a", "1", "a", "2"), long, spoilt,
	} {
		divides(t, "a map that may not be", m, nil, api.ErrMap)
	}
}

// P6.3: maps whose trees have 800 bytes, and 801; maps of 32 rows may be, their trees may not.
func TestPartsToTheLimit(t *testing.T) {
	var m api.Map
	for i := range 20 {
		m.Rows = append(m.Rows, api.Row{Path: numbered(i), Text: strconv.Itoa(i % 7)})
	}
	for n := range 48 {
		m := api.Map{Rows: append(slices.Clone(m.Rows), api.Row{Path: "q" + text(n), Text: "8"})}
		list, err := modelParts(m)
		is(t, "the model of a tree of "+strconv.Itoa(776+n)+" bytes", err, map[bool]api.Errno{true: api.OK, false: api.ErrFull}[n <= 24])
		divides(t, "a tree of "+strconv.Itoa(776+n)+" bytes", m, list, err)
		is(t, "Check", pathmap.Check(m), api.OK)
	}
	for n := range 33 {
		var m api.Map
		for i := range n {
			m.Rows = append(m.Rows, api.Row{Path: string([]byte{byte('A' + i)}), Text: "x"})
		}
		list, err := modelParts(m)
		is(t, "the model of "+strconv.Itoa(n)+" rows", err, map[bool]api.Errno{true: api.OK, false: api.ErrFull}[n <= 23])
		divides(t, strconv.Itoa(n)+" rows", m, list, err)
	}
}

// R3: what two calls answer shares no memory, and no two lists of one answer do.
func TestMemoryOfItsOwn(t *testing.T) {
	m := mapOf("a", "x", "b", "y")
	first, _ := object.Parts(m)
	second, _ := object.Parts(m)
	first[2].Object.Leaves[0] = leaf("z", none)
	first[0] = api.Held{}
	_ = append(first[2].Object.Leaves[:1], leaf("z", none))
	x, y := held(blob("x")), held(blob("y"))
	if !same(second[2].Object, tree(leaf("a", x.Id), leaf("b", y.Id))) || second[0].Id != x.Id {
		t.Errorf("the other parts are %v", second)
	}
	o := with(merge(), func(o *api.Object) { o.Edit = edit(gone("a"), put("b", "1")) })
	b := modelBytes(o)
	got, _ := object.Decode(b)
	got.Parents = append(got.Parents[:1], one, one, one)
	got.Edit.Rows = append(got.Edit.Rows[:1], gone("z"), gone("z"))
	if other, _ := object.Decode(b); !same(other, o) {
		t.Errorf("the other object is %v", other)
	}
	links := object.Links(o)
	links[1] = none
	_ = append(links[:1], none, none)
	has(t, "the parents", o.Parents, []api.Id{two, three})
}

// R1: what is far beyond each limit: every call ends, and tells so.
func TestFarBeyond(t *testing.T) {
	var leaves []api.Leaf
	var e api.Edit
	for i := range 100000 {
		leaves, e.Rows = append(leaves, leaf(strconv.Itoa(i), one)), append(e.Rows, gone(strconv.Itoa(i)))
	}
	for _, o := range []api.Object{
		tree(leaves...),
		blob(text(1 << 24)),
		with(blob("hi"), func(o *api.Object) { o.Leaves = leaves }),
		with(merge(), func(o *api.Object) { o.Parents = make([]api.Id, 100000) }),
		with(merge(), func(o *api.Object) { o.Edit = e }),
		with(plain(), func(o *api.Object) { o.Note = text(1 << 24) }),
	} {
		is(t, "Check", object.Check(o), api.ErrObject)
		_, err := object.Encode(o)
		is(t, "Encode", err, api.ErrObject)
		_, err = object.Id(o)
		is(t, "Id", err, api.ErrObject)
		has(t, "Links", object.Links(o), nil)
	}
	for kind := range 6 {
		b := make([]byte, 1<<22)
		b[0] = byte(kind)
		_, err := object.Decode(b)
		is(t, "Decode of noughts", err, api.ErrObject)
	}
	var m api.Map
	for _, l := range leaves {
		m.Rows = append(m.Rows, api.Row{Path: l.Path})
	}
	_, err := object.Parts(m)
	is(t, "Parts", err, api.ErrMap)
}
