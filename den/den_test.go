package den_test

import (
	"slices"
	"strconv"
	"strings"
	"testing"

	"confluence/api"
	"confluence/dag"
	"confluence/den"
	"confluence/merge"
	"confluence/object"
	"confluence/pathmap"
	"confluence/sha"
)

// gone is the text of a path that an edit takes away.
const gone = "\x00"

// of is a map of paths and texts by turns, which rise.
func of(l ...string) api.Map {
	var m api.Map
	for i := 0; i+1 < len(l); i += 2 {
		m.Rows = append(m.Rows, api.Row{Path: l[i], Text: l[i+1]})
	}
	return m
}

// does is an edit of paths and texts by turns, which rise.
func does(l ...string) api.Edit {
	var e api.Edit
	for i := 0; i+1 < len(l); i += 2 {
		c := api.Change{Path: l[i], Is: true, Text: l[i+1]}
		if l[i+1] == gone {
			c.Is, c.Text = false, ""
		}
		e.Rows = append(e.Rows, c)
	}
	return e
}

// path is the n-th one of many paths, which rise.
func path(n int) string {
	return string([]byte{byte('A' + n/26), byte('a' + n%26)})
}

// rows is a map of so many rows from the n-th path on, all of one text.
func rows(from, many int) api.Map {
	var m api.Map
	for n := range many {
		m.Rows = append(m.Rows, api.Row{Path: path(from + n), Text: "t"})
	}
	return m
}

// all is the edit that adds the rows of a map.
func all(m api.Map) api.Edit {
	var e api.Edit
	for _, r := range m.Rows {
		e.Rows = append(e.Rows, api.Change{Path: r.Path, Is: true, Text: r.Text})
	}
	return e
}

// at is an Id that is nobody's digest.
func at(n int) api.Id {
	return api.Id{byte(n >> 16), byte(n >> 8), byte(n), 7}
}

// blob is a block.
func blob(text string) api.Object {
	return api.Object{Kind: api.ObjBlob, Text: text}
}

// held is an object at such an Id.
func held(n int, o api.Object) api.Held {
	return api.Held{Id: at(n), Object: o}
}

// idOf is an object's own Id.
func idOf(o api.Object) api.Id {
	id, _ := object.Id(o)
	return id
}

// stand is a heap that grows by what may be right, and may be wrong.
type stand struct {
	heap api.Heap
}

// put puts objects into the heap.
func (w *stand) put(l ...api.Object) {
	h, err := dag.Put(w.heap, l)
	if err != api.OK {
		panic(err)
	}
	w.heap = h
}

// tree is the Id of a map's tree, whose parts are put.
func (w *stand) tree(m api.Map) api.Id {
	parts, err := object.Parts(m)
	if err != api.OK {
		panic(err)
	}
	for _, p := range parts {
		w.put(p.Object)
	}
	return parts[len(parts)-1].Id
}

// number is one more than the greatest of these parents'.
func (w *stand) number(parents ...api.Id) uint32 {
	greatest := uint32(0)
	for _, id := range parents {
		o, _ := dag.Get(w.heap, id)
		greatest = max(greatest, o.Number)
	}
	return greatest + 1
}

// commit puts a commit with the tree of a map. The Author tells it from others.
func (w *stand) commit(m api.Map, o api.Object) api.Id {
	o.Kind, o.Tree, o.Author = api.ObjCommit, w.tree(m), uint32(len(w.heap.List))
	if len(o.Parents) > 0 {
		o.Number = w.number(o.Parents...)
	}
	w.put(o)
	return idOf(o)
}

// root, plain and join put commits with the tree of a map, whatever they denote.
func (w *stand) root(m api.Map) api.Id {
	return w.commit(m, api.Object{Style: api.ComRoot})
}

func (w *stand) plain(m api.Map, on api.Id, e api.Edit) api.Id {
	return w.commit(m, api.Object{Style: api.ComPlain, Parents: []api.Id{on}, Edit: e})
}

func (w *stand) join(m api.Map, a, b, base api.Id, by api.Edit) api.Id {
	return w.commit(m, api.Object{Style: api.ComMerge, Parents: []api.Id{a, b}, Base: base, Edit: by})
}

// with is the heap with an object at an Id, behind it.
func (w *stand) with(l ...api.Held) api.Heap {
	return api.Heap{List: slices.Concat(w.heap.List, l)}
}

// bent is the heap in which the object of an Id is bent.
func (w *stand) bent(id api.Id, bend func(o *api.Object)) api.Heap {
	l := slices.Clone(w.heap.List)
	for i := range l {
		if l[i].Id == id {
			bend(&l[i].Object)
		}
	}
	return api.Heap{List: l}
}

// without is the heap without the object of an Id.
func (w *stand) without(id api.Id) api.Heap {
	return api.Heap{List: slices.DeleteFunc(slices.Clone(w.heap.List), func(x api.Held) bool { return x.Id == id })}
}

// odds are what the room behind a list's end is full of.
var (
	oddLeaf   = api.Leaf{Path: "odd", Id: at(999)}
	oddId     = at(998)
	oddChange = api.Change{Path: "odd", Text: "odd"}
	oddRow    = api.Row{Path: "odd", Text: "odd"}
	oddObject = api.Object{Kind: 77, Note: "odd"}
	oddHeld   = api.Held{Id: at(997), Object: oddObject}
)

// roomy is a list with room behind its end, which is full of what is no row of any.
func roomy[R any](rows []R, odd R) []R {
	whole := make([]R, len(rows), len(rows)+2)
	copy(whole, rows)
	whole = append(whole, odd, odd)
	return whole[:len(rows)]
}

// roomyHeap is a heap all of whose lists are roomy.
func roomyHeap(h api.Heap) api.Heap {
	whole := roomy(h.List, oddHeld)
	for i := range whole {
		o := &whole[i].Object
		o.Leaves = roomy(o.Leaves, oddLeaf)
		o.Parents = roomy(o.Parents, oddId)
		o.Edit.Rows = roomy(o.Edit.Rows, oddChange)
	}
	return api.Heap{List: whole}
}

// isUntouched tells whether a roomy list is as it was.
func isUntouched[R comparable](rows, were []R, odd R) bool {
	return slices.Equal(rows[:len(rows)+2], append(slices.Clone(were), odd, odd))
}

// isUntouchedHeap tells whether a roomy heap is as it was.
func isUntouchedHeap(h, was api.Heap) bool {
	for _, x := range h.List[:len(h.List)+2][len(h.List):] {
		if x.Id != oddHeld.Id || !object.Same(x.Object, oddObject) {
			return false
		}
	}
	return slices.EqualFunc(h.List, was.List, func(x, y api.Held) bool {
		return x.Id == y.Id && object.Same(x.Object, y.Object) && isUntouched(x.Object.Leaves, y.Object.Leaves, oddLeaf) &&
			isUntouched(x.Object.Parents, y.Object.Parents, oddId) && isUntouched(x.Object.Edit.Rows, y.Object.Edit.Rows, oddChange)
	})
}

// spoil takes away all that a list has, and what stands behind it.
func spoil[R any](rows []R) {
	clear(rows[:cap(rows)])
}

// spoilHeap takes away all that a heap has.
func spoilHeap(h api.Heap) {
	for _, x := range h.List {
		spoil(x.Object.Leaves)
		spoil(x.Object.Parents)
		spoil(x.Object.Edit.Rows)
	}
	spoil(h.List)
}

// answer is what a call answers: of each kind of call some of it.
type answer struct {
	texts     api.Map
	conflicts []api.Conflict
	heap      api.Heap
	id        api.Id
	err       api.Errno
}

// same tells whether two answers are the same.
func (a answer) same(b answer) bool {
	return pathmap.Same(a.texts, b.texts) && slices.Equal(a.conflicts, b.conflicts) && sameHeap(a.heap, b.heap) && a.id == b.id && a.err == b.err
}

// sameHeap tells whether two heaps have the same, in order.
func sameHeap(a, b api.Heap) bool {
	return slices.EqualFunc(a.List, b.List, func(x, y api.Held) bool { return x.Id == y.Id && object.Same(x.Object, y.Object) })
}

// String is an answer in short.
func (a answer) String() string {
	var b strings.Builder
	b.WriteString("error " + strconv.Itoa(int(a.err)))
	for _, r := range a.texts.Rows {
		b.WriteString(", " + r.Path + " " + r.Text)
	}
	for _, c := range a.conflicts {
		b.WriteString(", " + c.Path + " in conflict")
	}
	b.WriteString(", " + sha.Text(a.id)[:6] + " of")
	for _, x := range a.heap.List {
		b.WriteString(" " + strconv.Itoa(x.Object.Kind) + ":" + sha.Text(x.Id)[:6])
	}
	return b.String()
}

// spoil takes away all that an answer has.
func (a answer) spoil() {
	spoil(a.texts.Rows)
	spoil(a.conflicts)
	spoilHeap(a.heap)
}

// wrong is the answer of an error.
func wrong(err api.Errno) answer { return answer{err: err} }

// right is the answer of a map.
func right(l ...string) answer { return answer{texts: of(l...)} }

// call is a call of a heap.
type call struct {
	name string
	ask  func(h api.Heap) answer
}

// changed is the error that a call tells when what it was handed beside the heap is no more as it was.
const changed api.Errno = -1

func denoted(id api.Id) call {
	return call{"Den", func(h api.Heap) answer {
		m, err := den.Den(h, id)
		return answer{texts: m, err: err}
	}}
}

func sound(id api.Id) call {
	return call{"Sound", func(h api.Heap) answer { return wrong(den.Sound(h, id)) }}
}

func rooted(m api.Map, s api.Stamp) call {
	return call{"Root", func(h api.Heap) answer {
		in := roomy(m.Rows, oddRow)
		made, id, err := den.Root(h, api.Map{Rows: in}, s)
		if !isUntouched(in, m.Rows, oddRow) {
			err = changed
		}
		spoil(in)
		return answer{heap: made, id: id, err: err}
	}}
}

// edited is a call that is handed an edit.
func edited(name string, e api.Edit, ask func(h api.Heap, e api.Edit) (api.Heap, api.Id, api.Errno)) call {
	return call{name, func(h api.Heap) answer {
		in := roomy(e.Rows, oddChange)
		made, id, err := ask(h, api.Edit{Rows: in})
		if !isUntouched(in, e.Rows, oddChange) {
			err = changed
		}
		spoil(in)
		return answer{heap: made, id: id, err: err}
	}}
}

func plain(on api.Id, e api.Edit, s api.Stamp) call {
	return edited("Plain", e, func(h api.Heap, e api.Edit) (api.Heap, api.Id, api.Errno) { return den.Plain(h, on, e, s) })
}

func merged(a, b api.Id, by api.Edit, s api.Stamp) call {
	return edited("Merge", by, func(h api.Heap, by api.Edit) (api.Heap, api.Id, api.Errno) { return den.Merge(h, a, b, by, s) })
}

func conflicts(a, b api.Id) call {
	return call{"Conflicts", func(h api.Heap) answer {
		l, err := den.Conflicts(h, a, b)
		return answer{conflicts: l, err: err}
	}}
}

func rebased(from, onto api.Id, s api.Stamp) call {
	return call{"Rebase", func(h api.Heap) answer {
		made, id, err := den.Rebase(h, from, onto, s)
		return answer{heap: made, id: id, err: err}
	}}
}

// tells fails the test if a call of a heap answers something else, changes what it is handed, keeps it, or hands out what is not new.
func tells(t *testing.T, what string, h api.Heap, c call, want answer) {
	t.Helper()
	if t.Failed() {
		return
	}
	what += ": " + c.name
	in := roomyHeap(h)
	got := c.ask(in)
	if !isUntouchedHeap(in, h) {
		t.Errorf("%s: the heap that was handed in is no more as it was", what)
	}
	spoilHeap(in)
	if !got.same(want) {
		t.Errorf("%s: %v, not %v", what, got, want)
	}
	got.spoil()
	if again := c.ask(h); !again.same(want) {
		t.Errorf("%s: again %v, not %v", what, again, want)
	}
}

// makes fails the test if a call does not put just these behind the heap, the last one the commit that is told. It answers the heap that was made.
func makes(t *testing.T, what string, h api.Heap, c call, l ...api.Object) api.Heap {
	t.Helper()
	want := answer{heap: api.Heap{List: slices.Clone(h.List)}, id: idOf(l[len(l)-1])}
	for _, o := range l {
		want.heap.List = append(want.heap.List, api.Held{Id: idOf(o), Object: o})
	}
	tells(t, what, h, c, want)
	return want.heap
}

// tree is the tree of a map.
func tree(m api.Map) api.Object {
	parts, _ := object.Parts(m)
	return parts[len(parts)-1].Object
}

// commitOf is a commit of a map.
func commitOf(m api.Map, style int, number uint32, s api.Stamp, parents ...api.Id) api.Object {
	return api.Object{Kind: api.ObjCommit, Style: style, Tree: idOf(tree(m)), Parents: parents, Number: number, Author: s.Author, Note: s.Note}
}

// plainOf is a plain commit of a map.
func plainOf(m api.Map, number uint32, s api.Stamp, on api.Id, e api.Edit) api.Object {
	o := commitOf(m, api.ComPlain, number, s, on)
	o.Edit = e
	return o
}

// mergeOf is a merge of a map.
func mergeOf(m api.Map, number uint32, s api.Stamp, a, b, base api.Id, by api.Edit) api.Object {
	o := commitOf(m, api.ComMerge, number, s, a, b)
	o.Base, o.Edit = base, by
	return o
}

// noStamp is nobody's, and me is somebody's.
var (
	noStamp = api.Stamp{}
	me      = api.Stamp{Author: 7, Note: "mine"}
	tooLong = api.Stamp{Note: strings.Repeat("n", 201)}
)

// ofOne is all calls that ask for a sound commit, at each of their places, beside it and beside a sound one.
func ofOne(id, other api.Id) []call {
	return []call{
		sound(id), plain(id, api.Edit{}, noStamp), plain(id, does("b", "9", "a", "9"), tooLong),
		conflicts(id, id), conflicts(id, other), conflicts(other, id),
		merged(id, id, api.Edit{}, noStamp), merged(id, other, does("b", "9", "a", "9"), tooLong), merged(other, id, api.Edit{}, noStamp),
		rebased(id, id, noStamp), rebased(id, other, tooLong), rebased(other, id, noStamp),
	}
}

// notSound fails the test if one of the calls that ask for a sound commit tells another error than this, or anything beside it.
func notSound(t *testing.T, what string, h api.Heap, id, other api.Id, err api.Errno) {
	t.Helper()
	for _, c := range ofOne(id, other) {
		tells(t, what, h, c, wrong(err))
	}
}

// example is the chapter's heap: r, a root of a 1; x and y plain ones on it, b 2 and c 3; z one, a 9.
type example struct {
	stand
	r, x, y, z api.Id
}

func theExample() *example {
	w := &example{}
	w.r = w.root(of("a", "1"))
	w.x = w.plain(of("a", "1", "b", "2"), w.r, does("b", "2"))
	w.y = w.plain(of("a", "1", "c", "3"), w.r, does("c", "3"))
	w.z = w.plain(of("a", "9"), w.r, does("a", "9"))
	return w
}

// P9.1 to P9.4: the chapter's examples.
func TestExamples(t *testing.T) {
	w := theExample()
	tells(t, "x", w.heap, denoted(w.x), right("a", "1", "b", "2"))
	whole := of("a", "1", "b", "2", "c", "3")
	xy := mergeOf(whole, 2, noStamp, w.x, w.y, w.r, api.Edit{})
	h := makes(t, "x and y", w.heap, merged(w.x, w.y, api.Edit{}, noStamp), tree(whole), xy)
	tells(t, "x and y", h, denoted(idOf(xy)), answer{texts: whole})
	seven := w.plain(of("a", "7", "b", "2"), w.x, does("a", "7"))
	side := func(s string) api.Side { return api.Side{Is: true, Text: s} }
	tells(t, "a 7 and z", w.heap, conflicts(seven, w.z), answer{conflicts: []api.Conflict{{Path: "a", Base: side("1"), Ours: side("7"), Theirs: side("9")}}})
	eight := of("a", "8", "b", "2")
	o := mergeOf(eight, 3, noStamp, seven, w.z, w.r, does("a", "8"))
	h = makes(t, "a 7 and z", w.heap, merged(seven, w.z, does("a", "8"), noStamp), blob("8"), tree(eight), o)
	tells(t, "a 7 and z", h, denoted(idOf(o)), answer{texts: eight})
	tells(t, "r and x", w.heap, merged(w.r, w.x, api.Edit{}, noStamp), wrong(api.ErrNone))
	onX := plainOf(whole, 2, noStamp, w.x, does("c", "3"))
	h = makes(t, "y on x", w.heap, rebased(w.y, w.x, noStamp), tree(whole), onX)
	tells(t, "y on x", h, denoted(idOf(onX)), answer{texts: whole})
	four := w.plain(of("a", "1", "c", "4"), w.r, does("c", "3"))
	tells(t, "c 4 in the place of c 3", w.heap, sound(four), wrong(api.ErrSound))
}

// P9.1 to P9.4: heaps that have nothing, with no list and with an empty one.
func TestEmptyHeaps(t *testing.T) {
	for _, h := range []api.Heap{{}, {List: []api.Held{}}} {
		for _, id := range []api.Id{{}, at(1)} {
			tells(t, "empty", h, denoted(id), wrong(api.ErrNone))
			notSound(t, "empty", h, id, at(2), api.ErrNone)
		}
		none := commitOf(api.Map{}, api.ComRoot, 0, me)
		makes(t, "empty", h, rooted(api.Map{}, me), tree(api.Map{}), none)
		makes(t, "empty", h, rooted(of("a", ""), me), blob(""), tree(of("a", "")), commitOf(of("a", ""), api.ComRoot, 0, me))
	}
}

// P9.1 to P9.4: an Id that is not there, one of a block, of a tree, of a commit that may not be, and of commits that are not closed.
func TestWhatIsNotClosed(t *testing.T) {
	w := theExample()
	o, _ := dag.Get(w.heap, w.x)
	lost, early := o, o
	lost.Tree, early.Number = at(77), 2
	may := o
	may.Parents = nil
	h := w.with(held(1, lost), held(2, early), held(3, may), held(4, plainOf(of("a", "1"), 2, noStamp, at(1), api.Edit{})))
	for _, x := range []struct {
		what string
		id   api.Id
		err  api.Errno
	}{
		{"not there", at(9), api.ErrNone}, {"zero", api.Id{}, api.ErrNone},
		{"a block", idOf(blob("1")), api.ErrObject}, {"a tree", o.Tree, api.ErrObject}, {"what may not be", at(3), api.ErrObject},
		{"no tree", at(1), api.ErrDag}, {"a wrong Number", at(2), api.ErrDag}, {"behind it no tree", at(4), api.ErrDag},
	} {
		tells(t, x.what, h, denoted(x.id), wrong(x.err))
		notSound(t, x.what, h, x.id, w.y, x.err)
	}
}

// P9.1: roots whose Tree's map may not be: then the tree, or a block of it, may not be either.
func TestRootsWithoutAMap(t *testing.T) {
	long := strings.Repeat("p", 49)
	leaf := func(path string) api.Leaf { return api.Leaf{Path: path, Id: at(1)} }
	for _, leaves := range [][]api.Leaf{{leaf("b"), leaf("a")}, {leaf("a"), leaf("a")}, {leaf("")}, {leaf("a b")}, {leaf(long)}, {{Path: "a", Id: at(2)}}, {{Path: "a"}}} {
		w := theExample()
		r := api.Object{Kind: api.ObjCommit, Style: api.ComRoot, Tree: at(3)}
		h := w.with(held(1, blob("1")), held(2, blob(strings.Repeat("t", 257))), held(3, api.Object{Kind: api.ObjTree, Leaves: leaves}), held(4, r))
		tells(t, "no map", h, denoted(at(4)), wrong(api.ErrDag))
		notSound(t, "no map", h, at(4), w.x, api.ErrDag)
	}
}

// P9.1: an Edit that may not be: of the commit itself, and of one behind it.
func TestEditsThatMayNotBe(t *testing.T) {
	for _, e := range []api.Edit{does("b", "2", "a", "1"), does("", "1"), does("a", "1", "a", "2"), {Rows: []api.Change{{Path: "a", Text: "1"}}}, all(rows(0, 33))} {
		w := theExample()
		o := plainOf(of("a", "1"), 1, noStamp, w.r, e)
		h := w.with(held(1, o), held(2, plainOf(of("a", "1"), 2, noStamp, at(1), api.Edit{})))
		tells(t, "no edit", h, denoted(at(1)), wrong(api.ErrObject))
		tells(t, "no edit behind", h, denoted(at(2)), wrong(api.ErrDag))
		notSound(t, "no edit", h, at(1), w.x, api.ErrObject)
		notSound(t, "no edit behind", h, at(2), w.x, api.ErrDag)
	}
}

// P9.1: plain commits that come to as many rows as may be, and to one more: what is told is what they denote, whatever their trees say.
func TestTooManyRows(t *testing.T) {
	var w stand
	r := w.root(of("zz", "t"))
	full := w.plain(of("a", "1"), r, all(rows(0, 31)))
	more := w.plain(of("a", "1"), full, all(rows(31, 1)))
	less := w.plain(of("a", "1"), full, does("zz", gone))
	far := w.plain(of("a", "1"), more, does(path(0), gone))
	want := rows(0, 31)
	tells(t, "no rows more", w.heap, denoted(less), answer{texts: want})
	want.Rows = append(want.Rows, api.Row{Path: "zz", Text: "t"})
	tells(t, "as many as may be", w.heap, denoted(full), answer{texts: want})
	for _, id := range []api.Id{more, far} {
		tells(t, "one more", w.heap, denoted(id), wrong(api.ErrDen))
		notSound(t, "one more", w.heap, id, r, api.ErrDen)
	}
	notSound(t, "another tree", w.heap, full, r, api.ErrSound)
}

// P9.1: a merge that comes to too many rows denotes nothing.
func TestMergesOfTooManyRows(t *testing.T) {
	for _, many := range []int{12, 16, 17} {
		var w stand
		r := w.root(api.Map{})
		a, b := w.plain(rows(0, 16), r, all(rows(0, 16))), w.plain(rows(16, many), r, all(rows(16, many)))
		m := w.join(of("a", "1"), a, b, r, api.Edit{})
		if many == 17 {
			tells(t, "33 rows", w.heap, denoted(m), wrong(api.ErrDen))
			notSound(t, "33 rows", w.heap, m, r, api.ErrDen)
			continue
		}
		tells(t, "up to 32 rows", w.heap, denoted(m), answer{texts: rows(0, 16+many)})
		notSound(t, "up to 32 rows", w.heap, m, r, api.ErrSound)
	}
}

// P9.1: what commits denote that are right, up from a root: each kind, none of them with another map than its tree's.
func TestDen(t *testing.T) {
	w := theExample()
	gone := w.plain(api.Map{}, w.z, does("a", gone))
	still := w.plain(of("a", "1", "b", "2"), w.x, api.Edit{})
	same := w.plain(of("a", "1", "b", "2"), w.x, does("a", "1", "c", "\x00"))
	up := w.join(of("a", "1", "b", "2", "c", "3"), still, w.y, w.r, api.Edit{})
	down := w.join(of("b", "2"), up, gone, w.r, does())
	over := w.join(of("a", "8", "b", "2", "c", "3"), up, w.z, w.r, api.Edit{})
	other := w.root(of("a", "5", "d", "4"))
	none := w.join(of("a", "6", "c", "3", "d", "4"), w.y, other, api.Id{}, does("a", "6"))
	for _, x := range []struct {
		what string
		id   api.Id
		want answer
	}{
		{"a root", w.r, right("a", "1")}, {"a plain one", w.y, right("a", "1", "c", "3")}, {"over", w.z, right("a", "9")},
		{"no rows", gone, right()}, {"an edit of no rows", still, right("a", "1", "b", "2")}, {"an edit of what is so", same, right("a", "1", "b", "2")},
		{"a merge", up, right("a", "1", "b", "2", "c", "3")}, {"a merge of a merge", down, right("b", "2", "c", "3")},
		{"another one", over, right("a", "9", "b", "2", "c", "3")}, {"of two roots", none, right("a", "6", "c", "3", "d", "4")},
	} {
		tells(t, x.what, w.heap, denoted(x.id), x.want)
	}
	for _, id := range []api.Id{w.r, w.y, w.z, gone, still, same, up, other, none} {
		tells(t, "right", w.heap, sound(id), answer{})
	}
	for _, id := range []api.Id{down, over} {
		notSound(t, "another tree", w.heap, id, w.x, api.ErrSound)
	}
}

// P9.1: merges by their Base: which ones denote nothing, and which ones denote what their tree says, and are not sound for all that.
func TestBases(t *testing.T) {
	w := theExample()
	up := w.plain(of("a", "1", "b", "2", "d", "4"), w.x, does("d", "4"))
	child := w.plain(of("a", "1", "c", "3"), w.y, api.Edit{})
	alone := w.root(of("a", "1"))
	side := w.join(of("a", "1", "b", "2", "c", "3"), w.x, w.y, w.r, api.Edit{})
	for _, x := range []struct {
		what       string
		a, b, base api.Id
		den, sound api.Errno
	}{
		{"the right one", up, w.y, w.r, api.OK, api.OK},
		{"the right one of sides changed about", w.y, up, w.r, api.OK, api.OK},
		{"zero, where they have met", up, w.y, api.Id{}, api.OK, api.ErrSound},
		{"a parent", w.y, child, w.y, api.OK, api.OK},
		{"behind the right one", side, up, w.r, api.OK, api.ErrSound},
		{"the right one", side, up, w.x, api.OK, api.OK},
		{"zero, where they have not met", w.x, alone, api.Id{}, api.OK, api.OK},
		{"a parent, where they have not met", w.r, alone, w.r, api.OK, api.ErrSound},
		{"one of both, where they have not met", alone, w.r, w.r, api.OK, api.ErrSound},
		{"the root of one of both, where they have not met", w.x, alone, w.r, api.OK, api.ErrSound},
		{"beside both", up, w.y, w.z, api.ErrDen, api.ErrDen},
		{"a child of one of both", up, w.y, child, api.ErrDen, api.ErrDen},
		{"another root", up, w.y, alone, api.ErrDen, api.ErrDen},
		{"not there", up, w.y, at(77), api.ErrDen, api.ErrDen},
		{"a block", up, w.y, idOf(blob("1")), api.ErrDen, api.ErrDen},
		{"a tree", up, w.y, idOf(tree(of("a", "1"))), api.ErrDen, api.ErrDen},
	} {
		v := w.stand
		has, _, err := mergedMap(v.heap, x.a, x.b, x.base)
		if err != api.OK {
			has = of("a", "1")
		}
		m := v.join(has, x.a, x.b, x.base, api.Edit{})
		far := v.plain(has, m, api.Edit{})
		for _, id := range []api.Id{m, far} {
			want := answer{texts: has}
			if x.den != api.OK {
				want = wrong(x.den)
			}
			tells(t, x.what, v.heap, denoted(id), want)
			tells(t, x.what, v.heap, sound(id), wrong(x.sound))
			if x.sound != api.OK {
				notSound(t, x.what, v.heap, id, w.r, x.sound)
			}
		}
	}
}

// mergedMap is what a merge without an edit denotes, of three sound commits by their trees.
func mergedMap(h api.Heap, a, b, base api.Id) (api.Map, []api.Conflict, api.Errno) {
	texts := func(id api.Id) api.Map {
		o, _ := dag.Get(h, id)
		m, _ := dag.Map(h, o.Tree)
		return m
	}
	m, err := merge.Merge(texts(base), texts(a), texts(b), api.Edit{})
	l, _ := merge.Conflicts(texts(base), texts(a), texts(b))
	return m, l, err
}

// P9.1: a merge whose Base is the merge itself, and one whose Base stands in a heap of made-up Ids at the zero Id.
func TestOddBases(t *testing.T) {
	w := theExample()
	m := mergeOf(of("a", "1", "b", "2"), 2, noStamp, w.x, w.r, w.r, api.Edit{})
	for _, x := range []struct {
		what string
		base api.Id
		err  api.Errno
	}{{"itself", at(1), api.ErrDen}, {"its child", at(2), api.ErrDen}, {"right", w.r, api.OK}} {
		m.Base = x.base
		h := w.with(held(1, m), held(2, plainOf(of("a", "1", "b", "2"), 3, noStamp, at(1), api.Edit{})))
		for _, id := range []api.Id{at(1), at(2)} {
			want := right("a", "1", "b", "2")
			if x.err != api.OK {
				want = wrong(x.err)
			}
			tells(t, x.what, h, denoted(id), want)
			tells(t, x.what, h, sound(id), wrong(x.err))
		}
	}
}

// P9.1 to P9.4: a commit at the zero Id is one like others, but that nothing may stand on it.
func TestTheZeroId(t *testing.T) {
	w := theExample()
	alone := w.root(of("a", "5"))
	zero := api.Id{}
	o, _ := dag.Get(w.heap, w.y)
	h := w.with(api.Held{Object: o})
	tells(t, "zero", h, denoted(zero), right("a", "1", "c", "3"))
	tells(t, "zero", h, sound(zero), answer{})
	tells(t, "zero", h, plain(zero, api.Edit{}, noStamp), wrong(api.ErrObject))
	tells(t, "zero, an edit that may not be", h, plain(zero, does("", ""), noStamp), wrong(api.ErrEdit))
	tells(t, "zero and itself", h, conflicts(zero, zero), answer{})
	tells(t, "zero and itself", h, merged(zero, zero, api.Edit{}, noStamp), wrong(api.ErrNone))
	tells(t, "zero and x", h, conflicts(zero, w.x), answer{})
	tells(t, "zero and x", h, merged(zero, w.x, api.Edit{}, noStamp), wrong(api.ErrObject))
	is := func(s string) api.Side { return api.Side{Is: true, Text: s} }
	apart := api.Conflict{Path: "a", Ours: is("1"), Theirs: is("5")}
	back := api.Conflict{Path: "a", Ours: is("5"), Theirs: is("1")}
	tells(t, "zero and one that it has not met", h, conflicts(zero, alone), answer{conflicts: []api.Conflict{apart}})
	tells(t, "one that zero has not met", h, conflicts(alone, zero), answer{conflicts: []api.Conflict{back}})
	tells(t, "zero and one that it has not met", h, merged(zero, alone, does("a", "1"), noStamp), wrong(api.ErrObject))
	tells(t, "zero and one that it has not met", h, merged(zero, alone, api.Edit{}, noStamp), wrong(api.ErrConflict))
	tells(t, "onto zero", h, rebased(w.x, zero, noStamp), wrong(api.ErrObject))
	tells(t, "onto zero, which it has not met", h, rebased(alone, zero, noStamp), wrong(api.ErrNone))
	whole := of("a", "1", "b", "2", "c", "3")
	makes(t, "zero onto x", h, rebased(zero, w.x, noStamp), tree(whole), plainOf(whole, 2, noStamp, w.x, does("c", "3")))
	r := api.Object{Kind: api.ObjCommit, Style: api.ComMerge, Tree: idOf(tree(of("a", "8"))), Parents: []api.Id{w.r, alone}, Number: 1, Edit: does("a", "8")}
	w.tree(of("a", "8"))
	tells(t, "zero, of a zero Base", w.with(api.Held{Object: r}), denoted(zero), right("a", "8"))
	tells(t, "zero, of a zero Base", w.with(api.Held{Object: r}), sound(zero), answer{})
}

// P9.1: merges whose Edit is of too few conflicts, of too many, of others, of just those.
func TestResolutions(t *testing.T) {
	var w stand
	r := w.root(of("a", "1", "b", "1", "c", "1"))
	a := w.plain(of("a", "2", "b", "2", "c", "1", "d", "4"), r, does("a", "2", "b", "2", "d", "4"))
	b := w.plain(of("b", "3", "c", "5"), r, does("a", gone, "b", "3", "c", "5"))
	for _, x := range []struct {
		what string
		by   api.Edit
		want answer
	}{
		{"just those", does("a", "6", "b", "7"), right("a", "6", "b", "7", "c", "5", "d", "4")},
		{"just those, gone", does("a", gone, "b", gone), right("c", "5", "d", "4")},
		{"none", does(), wrong(api.ErrDen)}, {"too few", does("a", "6"), wrong(api.ErrDen)}, {"too few", does("b", "6"), wrong(api.ErrDen)},
		{"too many", does("a", "6", "b", "7", "c", "5"), wrong(api.ErrDen)}, {"too many", does("a", "6", "b", "7", "e", "1"), wrong(api.ErrDen)},
		{"others", does("a", "6", "c", "7"), wrong(api.ErrDen)},
	} {
		v := w
		m := v.join(x.want.texts, a, b, r, x.by)
		tells(t, x.what, v.heap, denoted(m), x.want)
		tells(t, x.what, v.heap, sound(m), wrong(x.want.err))
		called := merged(a, b, x.by, me)
		if x.want.err != api.OK {
			tells(t, x.what, w.heap, called, wrong(api.ErrConflict))
			continue
		}
		parts, _ := object.Parts(x.want.texts)
		var put []api.Object
		for _, p := range parts {
			if _, err := dag.Get(w.heap, p.Id); err != api.OK {
				put = append(put, p.Object)
			}
		}
		makes(t, x.what, w.heap, called, append(put, mergeOf(x.want.texts, 2, me, a, b, r, x.by))...)
	}
}

// P9.1: another tree than what a commit denotes, of each style that can have one, as such and far behind ones that are right; a wrong one behind goes ahead of what is not sound.
func TestOtherTrees(t *testing.T) {
	for _, far := range []int{0, 1, 30} {
		w := theExample()
		wrongTree := w.plain(of("a", "1", "b", "3"), w.r, does("b", "2"))
		noRows := w.plain(api.Map{}, w.r, does("b", "2"))
		oneMore := w.plain(of("a", "1", "b", "2", "c", "3"), w.r, does("b", "2"))
		otherPath := w.plain(of("a", "1", "c", "2"), w.r, does("b", "2"))
		wrongMerge := w.join(of("a", "1", "b", "2"), w.x, w.y, w.r, api.Edit{})
		tooFew := w.join(of("a", "1", "b", "2"), w.x, w.y, at(5), api.Edit{})
		after := w.plain(of("a", "1", "b", "2", "d", "4"), wrongMerge, does("c", gone, "d", "4"))
		nothing := w.join(of("a", "1", "b", "2", "d", "4"), after, tooFew, w.x, api.Edit{})
		for _, x := range []struct {
			what string
			id   api.Id
			err  api.Errno
		}{
			{"another text", wrongTree, api.ErrSound}, {"no rows", noRows, api.ErrSound}, {"one row more", oneMore, api.ErrSound}, {"another path", otherPath, api.ErrSound},
			{"a merge", wrongMerge, api.ErrSound}, {"right again", after, api.ErrSound}, {"of nothing", tooFew, api.ErrDen}, {"of nothing, and behind one that is not sound", nothing, api.ErrDen},
		} {
			v := w.stand
			m, err := den.Den(v.heap, x.id)
			top := x.id
			for i := range far {
				e := does("z", strconv.Itoa(i))
				m, _ = pathmap.Apply(m, e)
				top = v.plain(m, top, e)
			}
			want := answer{texts: m}
			if x.err == api.ErrDen {
				want = wrong(x.err)
			}
			if x.err == api.ErrSound && err != api.OK {
				t.Error(x.what, err)
			}
			tells(t, x.what, v.heap, denoted(top), want)
			notSound(t, x.what, v.heap, top, w.y, x.err)
		}
	}
}

// P9.1: a root is sound, whatever it says; the first object of an Id counts, of commits, trees and blocks.
func TestTheFirstOfTwo(t *testing.T) {
	w := theExample()
	o, _ := dag.Get(w.heap, w.x)
	for i, second := range []api.Object{{}, blob("5"), tree(of()), plainOf(of("a", "1"), 1, noStamp, w.r, api.Edit{}), {Kind: api.ObjBlob, Text: strings.Repeat("t", 257)}} {
		what := "another one " + strconv.Itoa(i)
		for _, id := range []api.Id{w.r, w.x, o.Tree, idOf(blob("2"))} {
			h := w.with(api.Held{Id: id, Object: second})
			tells(t, what+" behind", h, denoted(w.x), right("a", "1", "b", "2"))
			tells(t, what+" behind", h, sound(w.x), answer{})
		}
	}
	ahead := func(id api.Id, o api.Object) api.Heap {
		return api.Heap{List: append([]api.Held{{Id: id, Object: o}}, w.heap.List...)}
	}
	five := ahead(idOf(blob("1")), blob("5"))
	tells(t, "a block ahead", five, denoted(w.r), right("a", "5"))
	tells(t, "a block ahead", five, denoted(w.x), right("a", "5", "b", "2"))
	tells(t, "a block ahead", five, sound(w.x), answer{})
	tells(t, "a block ahead", five, sound(w.z), answer{})
	nine := ahead(idOf(blob("9")), blob("5"))
	tells(t, "another block ahead", nine, denoted(w.z), right("a", "9"))
	tells(t, "another block ahead", nine, sound(w.z), wrong(api.ErrSound))
}
