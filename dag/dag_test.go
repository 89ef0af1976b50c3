package dag_test

import (
	"math"
	"slices"
	"strconv"
	"strings"
	"testing"

	"confluence/api"
	"confluence/dag"
	"confluence/object"
)

// at is an Id that is nobody's digest: they rise as the numbers do.
func at(n int) api.Id {
	return api.Id{byte(n >> 16), byte(n >> 8), byte(n), 7}
}

// ats are such Ids.
func ats(l ...int) []api.Id {
	var ids []api.Id
	for _, n := range l {
		ids = append(ids, at(n))
	}
	return ids
}

// blob, tree, root, plain and join are objects.
func blob(text string) api.Object {
	return api.Object{Kind: api.ObjBlob, Text: text}
}

// tree has these leaves, of the paths a, b, ...
func tree(leaves ...api.Id) api.Object {
	o := api.Object{Kind: api.ObjTree}
	for i, id := range leaves {
		o.Leaves = append(o.Leaves, api.Leaf{Path: string(rune('a' + i)), Id: id})
	}
	return o
}

func root(tree api.Id) api.Object {
	return api.Object{Kind: api.ObjCommit, Style: api.ComRoot, Tree: tree}
}

func plain(tree, parent api.Id, number uint32) api.Object {
	edit := api.Edit{Rows: []api.Change{{Path: "a", Is: true, Text: "1"}}}
	return api.Object{Kind: api.ObjCommit, Style: api.ComPlain, Tree: tree, Parents: []api.Id{parent}, Edit: edit, Number: number}
}

func join(tree, a, b api.Id, number uint32) api.Object {
	return api.Object{Kind: api.ObjCommit, Style: api.ComMerge, Tree: tree, Parents: []api.Id{a, b}, Number: number}
}

// noObjects are objects that may not be.
var noObjects = []api.Object{
	{},
	{Kind: 4},
	{Kind: -1},
	blob(strings.Repeat("x", 257)),
	{Kind: api.ObjBlob, Leaves: []api.Leaf{{Path: "a", Id: at(1)}}},
	tree(api.Id{}),
	{Kind: api.ObjTree, Leaves: []api.Leaf{{Path: "b", Id: at(1)}, {Path: "a", Id: at(1)}}},
	root(api.Id{}),
	plain(at(1), at(2), 0),
	plain(at(1), api.Id{}, 1),
	join(at(1), at(2), at(2), 1),
	{Kind: api.ObjCommit, Style: api.ComPlain, Tree: at(1), Parents: ats(2, 3), Number: 1},
}

// held is an object at such an Id.
func held(n int, o api.Object) api.Held {
	return api.Held{Id: at(n), Object: o}
}

// heap is these, in order.
func heap(l ...api.Held) api.Heap {
	return api.Heap{List: l}
}

// idOf is an object's own Id.
func idOf(o api.Object) api.Id {
	id, _ := object.Id(o)
	return id
}

// own is these objects, each at its own Id.
func own(l ...api.Object) api.Heap {
	var h api.Heap
	for _, o := range l {
		h.List = append(h.List, api.Held{Id: idOf(o), Object: o})
	}
	return h
}

// odds are what the room behind a list's end is full of.
var (
	oddLeaf   = api.Leaf{Path: "odd", Id: at(9999)}
	oddId     = at(9998)
	oddChange = api.Change{Path: "odd", Text: "odd"}
	oddObject = api.Object{Kind: 77, Note: "odd"}
	oddHeld   = api.Held{Id: at(9997), Object: oddObject}
)

// roomy is a list with room behind its end, which is full of what is no row of any.
func roomy[R any](rows []R, odd R) []R {
	whole := make([]R, len(rows), len(rows)+2)
	copy(whole, rows)
	whole = append(whole, odd, odd)
	return whole[:len(rows)]
}

// roomyObject is an object whose lists are roomy.
func roomyObject(o api.Object) api.Object {
	o.Leaves = roomy(o.Leaves, oddLeaf)
	o.Parents = roomy(o.Parents, oddId)
	o.Edit.Rows = roomy(o.Edit.Rows, oddChange)
	return o
}

// roomyObjects are objects that are roomy in a list that is so too.
func roomyObjects(l []api.Object) []api.Object {
	whole := roomy(l, oddObject)
	for i, o := range whole {
		whole[i] = roomyObject(o)
	}
	return whole
}

// roomyHeap is a heap all of whose lists are roomy.
func roomyHeap(h api.Heap) api.Heap {
	whole := roomy(h.List, oddHeld)
	for i, x := range whole {
		whole[i].Object = roomyObject(x.Object)
	}
	return api.Heap{List: whole}
}

// isFull tells whether the room behind a list's end is full of what it was.
func isFull[R comparable](rows []R, odd R) bool {
	for _, r := range rows[len(rows):cap(rows)] {
		if r != odd {
			return false
		}
	}
	return true
}

// isUntouched tells whether a roomy object is as it was.
func isUntouched(o, was api.Object) bool {
	return object.Same(o, was) && isFull(o.Leaves, oddLeaf) && isFull(o.Parents, oddId) && isFull(o.Edit.Rows, oddChange)
}

// isUntouchedHeap tells whether a roomy heap is as it was.
func isUntouchedHeap(h, was api.Heap) bool {
	whole := h.List[:len(h.List)+2]
	for _, x := range whole[len(h.List):] {
		if x.Id != oddHeld.Id || !object.Same(x.Object, oddObject) {
			return false
		}
	}
	return slices.EqualFunc(h.List, was.List, func(a, b api.Held) bool { return a.Id == b.Id && isUntouched(a.Object, b.Object) })
}

// isUntouchedList tells whether roomy objects are as they were.
func isUntouchedList(l, were []api.Object) bool {
	for _, o := range l[len(l) : len(l)+2] {
		if !object.Same(o, oddObject) {
			return false
		}
	}
	return slices.EqualFunc(l, were, isUntouched)
}

// spoilObject takes away all that an object's lists have.
func spoilObject(o api.Object) {
	clear(o.Leaves[:cap(o.Leaves)])
	clear(o.Parents[:cap(o.Parents)])
	clear(o.Edit.Rows[:cap(o.Edit.Rows)])
}

// spoilHeap takes away all that a heap has.
func spoilHeap(h api.Heap) {
	for _, x := range h.List {
		spoilObject(x.Object)
	}
	clear(h.List[:cap(h.List)])
}

// answer is what a call answers: of each kind of call some of it.
type answer struct {
	object api.Object
	texts  api.Map
	heap   api.Heap
	ids    []api.Id
	id     api.Id
	is     bool
	err    api.Errno
}

// same tells whether two answers are the same.
func (a answer) same(b answer) bool {
	return object.Same(a.object, b.object) && slices.Equal(a.texts.Rows, b.texts.Rows) && sameHeap(a.heap, b.heap) &&
		slices.Equal(a.ids, b.ids) && a.id == b.id && a.is == b.is && a.err == b.err
}

// sameHeap tells whether two heaps have the same, in order.
func sameHeap(a, b api.Heap) bool {
	return slices.EqualFunc(a.List, b.List, func(x, y api.Held) bool { return x.Id == y.Id && object.Same(x.Object, y.Object) })
}

// spoil takes away all that an answer has.
func (a answer) spoil() {
	spoilObject(a.object)
	clear(a.texts.Rows[:cap(a.texts.Rows)])
	spoilHeap(a.heap)
	clear(a.ids[:cap(a.ids)])
}

// wrong is the answer of an error.
func wrong(err api.Errno) answer { return answer{err: err} }

// these is the answer of Ids, yes the one of true.
func these(ids ...api.Id) answer { return answer{ids: ids} }

var yes, no = answer{is: true}, answer{}

// call is a call of a heap.
type call struct {
	name string
	ask  func(h api.Heap) answer
}

func get(id api.Id) call {
	return call{"Get", func(h api.Heap) answer {
		o, err := dag.Get(h, id)
		return answer{object: o, err: err}
	}}
}

func commit(id api.Id) call {
	return call{"Commit", func(h api.Heap) answer {
		o, err := dag.Commit(h, id)
		return answer{object: o, err: err}
	}}
}

func texts(id api.Id) call {
	return call{"Map", func(h api.Heap) answer {
		m, err := dag.Map(h, id)
		return answer{texts: m, err: err}
	}}
}

// changed is the error that a call of put tells when what it was handed is no more as it was.
const changed api.Errno = -1

func put(l ...api.Object) call {
	return call{"Put", func(h api.Heap) answer {
		in := roomyObjects(l)
		made, err := dag.Put(h, in)
		if !isUntouchedList(in, l) {
			err = changed
		}
		for _, o := range in {
			spoilObject(o)
		}
		clear(in)
		return answer{heap: made, err: err}
	}}
}

func closed(id api.Id) call {
	return call{"Closed", func(h api.Heap) answer { return wrong(dag.Closed(h, id)) }}
}

func lacks(id api.Id) call {
	return call{"Lacks", func(h api.Heap) answer { return these(dag.Lacks(h, id)...) }}
}

func history(id api.Id) call {
	return call{"History", func(h api.Heap) answer {
		l, err := dag.History(h, id)
		return answer{ids: l, err: err}
	}}
}

func above(old, id api.Id) call {
	return call{"Above", func(h api.Heap) answer {
		up, err := dag.Above(h, old, id)
		return answer{is: up, err: err}
	}}
}

func base(a, b api.Id) call {
	return call{"Base", func(h api.Heap) answer {
		id, ok, err := dag.Base(h, a, b)
		return answer{id: id, is: ok, err: err}
	}}
}

func reach(id api.Id) call {
	return call{"Reach", func(h api.Heap) answer {
		l, err := dag.Reach(h, id)
		return answer{ids: l, err: err}
	}}
}

// tells fails the test if a call of a heap answers something else, changes what it is handed, keeps it, or hands out what is not new.
func tells(t *testing.T, what string, h api.Heap, c call, want answer) {
	t.Helper()
	if t.Failed() {
		return
	}
	what += ": " + c.name
	in := roomyHeap(h)
	got := c.ask(in)
	if !isUntouchedHeap(in, h) {
		t.Errorf("%s: the heap that was handed in is no more as it was", what)
	}
	spoilHeap(in)
	if !got.same(want) {
		t.Errorf("%s: %v, not %v", what, got, want)
	}
	got.spoil()
	if again := c.ask(h); !again.same(want) {
		t.Errorf("%s: again %v, not %v", what, again, want)
	}
}

// ofCommit is all calls that ask for a closed commit: of Base at each of both places, beside it and beside others.
func ofCommit(id api.Id, others ...api.Id) []call {
	l := []call{closed(id), history(id), reach(id), above(id, id), base(id, id)}
	for _, x := range others {
		l = append(l, above(x, id), base(id, x))
	}
	return l
}

// allTell fails the test if one of these calls answers another error than this, or anything beside it.
func allTell(t *testing.T, what string, h api.Heap, l []call, err api.Errno) {
	t.Helper()
	for _, c := range l {
		tells(t, what, h, c, wrong(err))
	}
}

// P8.1 to P8.4: the chapter's examples.
func TestExamples(t *testing.T) {
	one := blob("1")
	tells(t, "none", api.Heap{}, get(at(1)), wrong(api.ErrNone))
	tells(t, "none", api.Heap{}, put(one), answer{heap: own(one)})
	tells(t, "one", own(one), closed(idOf(one)), wrong(api.ErrObject))
	leaves := tree(idOf(one))
	r := root(idOf(leaves))
	a, b := plain(idOf(leaves), idOf(r), 1), plain(idOf(leaves), idOf(r), 1)
	b.Note = "b"
	h := own(one, leaves, r, a, b)
	tells(t, "two on a root", h, history(idOf(a)), these(idOf(a), idOf(r)))
	tells(t, "two on a root", h, base(idOf(a), idOf(b)), answer{id: idOf(r), is: true})
	tells(t, "two on a root", h, above(idOf(r), idOf(a)), yes)
	tells(t, "two on a root", h, above(idOf(a), idOf(r)), no)
	less := own(one, r, a, b)
	tells(t, "without the tree", less, lacks(idOf(a)), these(idOf(leaves)))
	tells(t, "without the tree", less, closed(idOf(a)), wrong(api.ErrDag))
}

// P8.1 to P8.4: heaps that have nothing, with no list and with an empty one.
func TestEmptyHeaps(t *testing.T) {
	for _, h := range []api.Heap{{}, {List: []api.Held{}}} {
		for _, id := range []api.Id{{}, at(1)} {
			tells(t, "empty", h, get(id), wrong(api.ErrNone))
			tells(t, "empty", h, commit(id), wrong(api.ErrNone))
			tells(t, "empty", h, texts(id), wrong(api.ErrNone))
			tells(t, "empty", h, lacks(id), these(id))
			allTell(t, "empty", h, ofCommit(id, at(2), api.Id{}), api.ErrNone)
		}
		tells(t, "empty", h, put(), answer{})
		tells(t, "empty", h, put(blob("")), answer{heap: own(blob(""))})
	}
}

// P8.1: an Id that is not there, one of a block, of a tree and of a commit.
func TestGetCommitMap(t *testing.T) {
	h := heap(held(3, root(at(2))), held(2, tree(at(1), at(1), at(4))), held(1, blob("1")), held(4, blob("")))
	for _, x := range h.List {
		tells(t, "there", h, get(x.Id), answer{object: x.Object})
	}
	tells(t, "commit", h, commit(at(3)), answer{object: root(at(2))})
	rows := []api.Row{{Path: "a", Text: "1"}, {Path: "b", Text: "1"}, {Path: "c", Text: ""}}
	tells(t, "tree", h, texts(at(2)), answer{texts: api.Map{Rows: rows}})
	for _, id := range []api.Id{at(5), {}, {0, 0, 1}, {0, 0, 1, 8}} {
		tells(t, "not there", h, get(id), wrong(api.ErrNone))
		tells(t, "not there", h, commit(id), wrong(api.ErrNone))
		tells(t, "not there", h, texts(id), wrong(api.ErrNone))
	}
	tells(t, "commit of a block", h, commit(at(1)), wrong(api.ErrObject))
	tells(t, "commit of a tree", h, commit(at(2)), wrong(api.ErrObject))
	tells(t, "map of a block", h, texts(at(1)), wrong(api.ErrObject))
	tells(t, "map of a commit", h, texts(at(3)), wrong(api.ErrObject))
}

// P8.1: an object that may be is told whole, with all that it has.
func TestGetTellsAll(t *testing.T) {
	whole := api.Object{Kind: api.ObjCommit, Style: api.ComMerge, Tree: at(1), Parents: ats(3, 2), Base: at(9), Number: math.MaxUint32, Author: math.MaxUint32, Note: strings.Repeat("n", 200)}
	whole.Edit.Rows = []api.Change{{Path: "a", Is: true, Text: "t"}, {Path: "b"}}
	h := heap(held(4, whole))
	tells(t, "whole", h, get(at(4)), answer{object: whole})
	tells(t, "whole", h, commit(at(4)), answer{object: whole})
}

// P8.1 to P8.4: an object that may not be, as such, and ahead of one of the same Id that may be.
func TestObjectsThatMayNotBe(t *testing.T) {
	for i, o := range noObjects {
		what := "what may not be " + strconv.Itoa(i)
		for _, h := range []api.Heap{heap(held(3, o)), heap(held(1, tree()), held(3, o), held(3, root(at(1))), held(2, root(at(1))))} {
			tells(t, what, h, get(at(3)), wrong(api.ErrObject))
			tells(t, what, h, commit(at(3)), wrong(api.ErrObject))
			tells(t, what, h, texts(at(3)), wrong(api.ErrObject))
			tells(t, what, h, lacks(at(3)), these(at(3)))
			allTell(t, what, h, ofCommit(at(3), at(2), at(3)), api.ErrObject)
		}
	}
}

// P8.1 to P8.3: a heap with one Id twice: the first object counts, be the second the same one or another one.
func TestTheFirstOfTwo(t *testing.T) {
	ahead := heap(held(1, tree()), held(2, root(at(1))), held(3, plain(at(1), at(2), 1)))
	twice := api.Heap{List: append(slices.Clone(ahead.List), ahead.List...)}
	tells(t, "the same twice", twice, history(at(3)), these(ats(3, 2)...))
	tells(t, "the same twice", twice, reach(at(3)), these(ats(1, 2, 3)...))
	tells(t, "the same twice", twice, put(), answer{heap: twice})
	for i, second := range append(slices.Clone(noObjects), blob("x"), tree(), root(at(1)), plain(at(1), at(3), 1)) {
		what := "another one behind it " + strconv.Itoa(i)
		for _, x := range ahead.List {
			h := api.Heap{List: append(slices.Clone(ahead.List), api.Held{Id: x.Id, Object: second})}
			tells(t, what, h, get(x.Id), answer{object: x.Object})
			tells(t, what, h, lacks(at(3)), these())
			tells(t, what, h, history(at(3)), these(ats(3, 2)...))
			tells(t, what, h, above(at(2), at(3)), yes)
			tells(t, what, h, base(at(3), at(2)), answer{id: at(2), is: true})
		}
	}
	for _, x := range ahead.List {
		h := api.Heap{List: append([]api.Held{{Id: x.Id, Object: blob("x")}}, ahead.List...)}
		tells(t, "a block ahead of it", h, get(x.Id), answer{object: blob("x")})
		err := api.ErrDag
		if x.Id == at(3) {
			err = api.ErrObject
		}
		allTell(t, "a block ahead of it", h, ofCommit(at(3)), err)
	}
}

// P8.1, P8.2: the zero Id is an Id like others, but that nothing that may be leads to it.
func TestTheZeroId(t *testing.T) {
	h := heap(held(1, tree()), api.Held{Object: root(at(1))}, held(2, root(at(1))))
	tells(t, "zero", h, get(api.Id{}), answer{object: root(at(1))})
	tells(t, "zero", h, history(api.Id{}), these(api.Id{}))
	tells(t, "zero", h, reach(api.Id{}), these(api.Id{}, at(1)))
	tells(t, "zero", h, above(api.Id{}, at(2)), no)
	tells(t, "zero", h, above(api.Id{}, api.Id{}), yes)
	tells(t, "zero", h, base(api.Id{}, api.Id{}), answer{is: true})
	tells(t, "zero", h, base(api.Id{}, at(2)), answer{})
}

// leafCase is what a tree's leaf leads to, and the error of Map that it makes.
type leafCase struct {
	what string
	id   api.Id
	err  api.Errno
}

// leafCases are of the heap leafHeap.
var (
	leafHeap  = heap(held(1, blob("1")), held(2, tree()), held(3, root(at(2))), held(4, blob(strings.Repeat("x", 257))))
	leafCases = []leafCase{
		{"a block", at(1), api.OK},
		{"a tree", at(2), api.ErrObject},
		{"a commit", at(3), api.ErrObject},
		{"what may not be", at(4), api.ErrObject},
		{"what is not there", at(5), api.ErrNone},
	}
)

// P8.1, P8.2: trees with no leaves, one and two, right and wrong ones: of two wrong ones the first one's error.
func TestLeaves(t *testing.T) {
	none := heap(held(10, tree()), held(11, root(at(10))))
	tells(t, "no leaves", none, texts(at(10)), answer{})
	tells(t, "no leaves", none, closed(at(11)), answer{})
	for _, x := range leafCases {
		for _, y := range leafCases {
			what := x.what + ", " + y.what
			h := heap(append([]api.Held{held(10, tree(x.id, y.id)), held(11, root(at(10))), held(12, plain(at(2), at(11), 1))}, leafHeap.List...)...)
			want := answer{texts: api.Map{Rows: []api.Row{{Path: "a", Text: "1"}, {Path: "b", Text: "1"}}}}
			err := api.OK
			if x.err != api.OK || y.err != api.OK {
				want, err = wrong(y.err), api.ErrDag
			}
			if x.err != api.OK {
				want = wrong(x.err)
			}
			tells(t, what, h, texts(at(10)), want)
			tells(t, what, h, closed(at(11)), wrong(err))
			tells(t, what+", one behind", h, closed(at(12)), wrong(err))
		}
	}
}

// P8.2: a commit's Tree that is there, is not, may not be, is a block, is a commit, is the commit itself.
func TestTreesOfCommits(t *testing.T) {
	for _, x := range []struct {
		what string
		tree int
		err  api.Errno
	}{{"a tree", 2, api.OK}, {"a block", 1, api.ErrDag}, {"a commit", 3, api.ErrDag}, {"what may not be", 4, api.ErrDag}, {"not there", 5, api.ErrDag}, {"itself", 11, api.ErrDag}} {
		h := heap(append([]api.Held{held(11, root(at(x.tree))), held(12, plain(at(2), at(11), 1)), held(13, plain(at(x.tree), at(3), 1))}, leafHeap.List...)...)
		for _, id := range ats(11, 12, 13) {
			tells(t, x.what, h, closed(id), wrong(x.err))
		}
		tells(t, x.what, h, commit(at(11)), answer{object: root(at(x.tree))})
	}
}

// numbered is a heap of a tree at 1, a root at 2, and plain commits at 3, 4, 5, ... on it, each on the one ahead.
func numbered(n int) api.Heap {
	h := heap(held(1, tree()), held(2, root(at(1))))
	for i := 1; i <= n; i++ {
		h.List = append(h.List, held(2+i, plain(at(1), at(1+i), uint32(i))))
	}
	return h
}

// P8.2: a parent that is right, is not there, may not be, is a tree, is a block, has the same Number, a greater one, one less by two.
func TestParents(t *testing.T) {
	for _, x := range []struct {
		what   string
		parent int
		number uint32
		err    api.Errno
	}{
		{"right", 2, 1, api.OK}, {"right", 4, 3, api.OK}, {"right", 12, 11, api.OK},
		{"not there", 99, 1, api.ErrDag}, {"may not be", 50, 1, api.ErrDag}, {"a tree", 1, 1, api.ErrDag}, {"a block", 51, 1, api.ErrDag},
		{"the same Number", 4, 2, api.ErrDag}, {"a greater one", 4, 1, api.ErrDag}, {"a far greater one", 12, 1, api.ErrDag},
		{"less by two", 4, 4, api.ErrDag}, {"far less", 2, 11, api.ErrDag}, {"far less", 2, math.MaxUint32, api.ErrDag}, {"less by two, of a root", 2, 2, api.ErrDag},
		{"itself", 60, 1, api.ErrDag},
	} {
		h := numbered(10)
		h.List = append(h.List, held(50, blob(strings.Repeat("x", 257))), held(51, blob("")), held(60, plain(at(1), at(x.parent), x.number)), held(61, plain(at(1), at(60), x.number+1)))
		what := x.what + " " + strconv.Itoa(x.parent) + " " + strconv.Itoa(int(x.number))
		tells(t, what, h, closed(at(60)), wrong(x.err))
		if x.number == math.MaxUint32 {
			tells(t, what+", one behind", h, closed(at(61)), wrong(api.ErrObject))
			continue
		}
		tells(t, what+", one behind", h, closed(at(61)), wrong(x.err))
	}
}

// P8.2: two parents, of which the greater Number is one less, whichever stands first, and whatever the other one is below it.
func TestTwoParents(t *testing.T) {
	for i := range 6 {
		for k := range 6 {
			for number := range uint32(8) {
				if i == k || number == 0 {
					continue
				}
				h := numbered(6)
				h.List = append(h.List, held(60, join(at(1), at(2+i), at(2+k), number)))
				err := api.ErrDag
				if uint32(max(i, k))+1 == number {
					err = api.OK
				}
				tells(t, "Numbers "+strconv.Itoa(i)+", "+strconv.Itoa(k)+" below "+strconv.Itoa(int(number)), h, closed(at(60)), wrong(err))
			}
		}
	}
	for _, x := range []int{1, 51, 50, 99, 60} {
		for _, o := range []api.Object{join(at(1), at(4), at(x), 3), join(at(1), at(x), at(4), 3)} {
			h := numbered(6)
			h.List = append(h.List, held(50, blob(strings.Repeat("x", 257))), held(51, blob("")), held(60, o))
			allTell(t, "one parent is "+strconv.Itoa(x), h, ofCommit(at(60)), api.ErrDag)
		}
	}
}

// P8.2: Numbers up to the greatest, which has nothing above it.
func TestTheGreatestNumbers(t *testing.T) {
	top := uint32(math.MaxUint32)
	for _, x := range []struct {
		parent, child uint32
		err           api.Errno
	}{{top - 1, top, api.ErrDag}, {top, top, api.ErrDag}, {top, 1, api.ErrDag}, {top, 0, api.ErrObject}, {top - 2, top, api.ErrDag}} {
		h := heap(held(1, tree()), held(2, root(at(1))), held(3, plain(at(1), at(2), x.parent)), held(4, plain(at(1), at(3), x.child)))
		allTell(t, strconv.Itoa(int(x.parent))+" below "+strconv.Itoa(int(x.child)), h, ofCommit(at(4)), x.err)
	}
}

// P8.2, P8.3: a Base, and what an edit says, lead to nothing.
func TestBaseIsNoLink(t *testing.T) {
	o := join(at(1), at(3), at(4), 2)
	o.Base = at(77)
	h := heap(held(1, tree()), held(2, root(at(1))), held(3, plain(at(1), at(2), 1)), held(4, plain(at(1), at(2), 1)), held(5, o))
	tells(t, "a Base that is not there", h, closed(at(5)), answer{})
	tells(t, "a Base that is not there", h, lacks(at(5)), these())
	tells(t, "a Base that is not there", h, reach(at(5)), these(ats(1, 2, 3, 4, 5)...))
}

// P8.2 to P8.4: commits that lead to themselves, and rings of two and of three: told, and never gone round in.
func TestRings(t *testing.T) {
	for what, h := range map[string]api.Heap{
		"itself":             heap(held(1, tree()), held(2, plain(at(1), at(2), 1))),
		"itself as its Tree": heap(held(2, root(at(2)))),
		"itself and a root":  heap(held(1, tree()), held(3, root(at(1))), held(2, join(at(1), at(2), at(3), 1))),
		"two":                heap(held(1, tree()), held(2, plain(at(1), at(3), 1)), held(3, plain(at(1), at(2), 2))),
		"three":              heap(held(1, tree()), held(2, plain(at(1), at(4), 1)), held(3, plain(at(1), at(2), 2)), held(4, plain(at(1), at(3), 3))),
		"far behind":         heap(held(1, tree()), held(2, plain(at(1), at(3), 3)), held(3, plain(at(1), at(4), 2)), held(4, plain(at(1), at(4), 1))),
		"trees":              heap(held(1, tree(at(1))), held(2, root(at(1)))),
		"two trees":          heap(held(1, tree(at(3))), held(3, tree(at(1))), held(2, root(at(1)))),
		"tree and commit":    heap(held(1, tree(at(2))), held(2, root(at(1)))),
	} {
		tells(t, what, h, lacks(at(2)), these())
		allTell(t, what, h, ofCommit(at(2), at(3)), api.ErrDag)
	}
}

// P8.2, P8.3: what is wrong far behind a commit, whatever it is, and wherever it stands in the heap.
func TestWrongFarBehind(t *testing.T) {
	for _, far := range []int{1, 5, 40} {
		for what, bad := range map[string][]api.Held{
			"not there":    {},
			"may not be":   {held(2, noObjects[0])},
			"a block":      {held(2, blob("x"))},
			"no tree":      {held(2, root(at(70)))},
			"no block":     {held(2, root(at(71))), held(71, tree(at(70)))},
			"no parent":    {held(2, join(at(1), at(70), at(72), 1)), held(72, root(at(1)))},
			"wrong Number": {held(2, plain(at(1), at(72), 5)), held(72, root(at(1)))},
		} {
			h := numbered(far)
			h.List = slices.Concat(bad, h.List[:1], h.List[2:])
			allTell(t, what, h, ofCommit(at(2+far), at(2)), api.ErrDag)
			slices.Reverse(h.List)
			allTell(t, what, h, ofCommit(at(2+far), at(2)), api.ErrDag)
		}
	}
}

// P8.2: what is not there, what may not be, and both, rising, one that is led to twice told once; nothing beyond what may not be.
func TestLacks(t *testing.T) {
	h := heap(held(90, tree(at(80), at(3), at(80))), held(91, root(at(90))), held(92, plain(at(70), at(91), 1)), held(93, plain(at(90), at(91), 1)), held(94, join(at(2), at(92), at(93), 2)),
		held(3, blob("")), held(2, tree(at(60), api.Id{})), held(95, plain(at(2), at(80), 1)))
	tells(t, "a block", h, lacks(at(3)), these())
	tells(t, "a tree", h, lacks(at(90)), these(at(80)))
	tells(t, "a root", h, lacks(at(91)), these(at(80)))
	tells(t, "two not there", h, lacks(at(92)), these(ats(70, 80)...))
	tells(t, "one led to on two ways", h, lacks(at(93)), these(at(80)))
	tells(t, "both", h, lacks(at(94)), these(ats(2, 70, 80)...))
	tells(t, "both", h, lacks(at(95)), these(ats(2, 80)...))
	tells(t, "what may not be", h, lacks(at(2)), these(at(2)))
	tells(t, "what is not there", h, lacks(at(60)), these(at(60)))
	for _, id := range ats(91, 92, 93, 94, 95) {
		tells(t, "it lacks", h, closed(id), wrong(api.ErrDag))
	}
}

// P8.3: what is lacking is told too of what is not closed for other reasons.
func TestLacksOfWhatIsNotClosed(t *testing.T) {
	h := heap(held(1, tree(at(2))), held(2, tree(at(5))), held(3, root(at(1))), held(4, plain(at(6), at(2), 7)))
	tells(t, "a tree in a tree", h, lacks(at(3)), these(at(5)))
	tells(t, "a tree as a parent", h, lacks(at(4)), these(at(5), at(6)))
}

// diamonds is a root at 2, and so many times two commits of one Number and their merge: 3 and 4, 5; 6 and 7, 8; ...
func diamonds(n int) api.Heap {
	h := heap(held(1, tree()), held(2, root(at(1))))
	for i := range n {
		low, number := 2+3*i, uint32(2*i)
		left, right := plain(at(1), at(low), number+1), plain(at(1), at(low), number+1)
		h.List = append(h.List, held(low+2, right), held(low+1, left), held(low+3, join(at(1), at(low+2), at(low+1), number+2)))
	}
	return h
}

// P8.3: histories with two commits of one Number, and all that is led to, at each commit.
func TestDiamonds(t *testing.T) {
	h := diamonds(5)
	tells(t, "the root", h, history(at(2)), these(at(2)))
	tells(t, "a side", h, history(at(4)), these(ats(4, 2)...))
	tells(t, "a merge", h, history(at(5)), these(ats(5, 3, 4, 2)...))
	tells(t, "the last merge", h, history(at(17)), these(ats(17, 15, 16, 14, 12, 13, 11, 9, 10, 8, 6, 7, 5, 3, 4, 2)...))
	tells(t, "the last merge", h, reach(at(17)), these(ats(1, 2, 3, 4, 5, 6, 7, 8, 9, 10, 11, 12, 13, 14, 15, 16, 17)...))
	tells(t, "a merge", h, reach(at(5)), these(ats(1, 2, 3, 4, 5)...))
	for i := 2; i <= 17; i++ {
		tells(t, "behind the last merge", h, above(at(i), at(17)), yes)
		tells(t, "behind the last merge", h, above(at(17), at(i)), answer{is: i == 17})
		tells(t, "base of the last merge", h, base(at(i), at(17)), answer{id: at(i), is: true})
		tells(t, "base of the last merge", h, base(at(17), at(i)), answer{id: at(i), is: true})
	}
}

// many is a heap of so many plain commits of the Number 1 on one root, at 1000 and on, and merges of all of them, one by one; the last one's Id.
func many(n int) (api.Heap, api.Id) {
	h := heap(held(1, tree()), held(2, root(at(1))))
	last := at(1000)
	for i := range n {
		id := at(1000 + i*7%n)
		h.List = append(h.List, api.Held{Id: id, Object: plain(at(1), at(2), 1)})
		if i > 0 {
			h.List = append(h.List, held(5000+i, join(at(1), last, id, uint32(1+i))))
			last = at(5000 + i)
		}
	}
	return h, last
}

// P8.3: a history with many commits of one Number: they rise behind the later ones.
func TestManyOfOneNumber(t *testing.T) {
	const n = 60
	h, last := many(n)
	var want []api.Id
	for i := n - 1; i > 0; i-- {
		want = append(want, at(5000+i))
	}
	for i := range n {
		want = append(want, at(1000+i))
	}
	tells(t, "many", h, history(last), these(append(want, at(2))...))
}

// P8.3: Ids that are alike up to their last byte, and such whose first byte is high.
func TestOrderOfIds(t *testing.T) {
	h := heap(held(1, tree()), held(2, root(at(1))))
	ids := []api.Id{{}, {}, {}, {}, {}}
	ids[0][31], ids[1][31], ids[2][0], ids[3][0], ids[4][0] = 1, 255, 127, 128, 255
	ids[3][31] = 1
	for _, i := range []int{3, 0, 4, 1, 2} {
		h.List = append(h.List, api.Held{Id: ids[i], Object: plain(at(1), at(2), 1)})
	}
	top := ids[0]
	for i, id := range ids[1:] {
		h.List = append(h.List, held(100+i, join(at(1), id, top, uint32(2+i))))
		top = at(100 + i)
	}
	tells(t, "ids", h, history(top), these(at(103), at(102), at(101), at(100), ids[0], ids[1], ids[2], ids[3], ids[4], at(2)))
	tells(t, "ids", h, reach(top), these(ids[0], ids[1], at(1), at(2), at(100), at(101), at(102), at(103), ids[2], ids[3], ids[4]))
	less := heap(held(1, tree(ids[4], ids[2], ids[0], ids[3], ids[1])))
	tells(t, "ids", less, lacks(at(1)), these(ids...))
}

// P8.3: Above of what is not there, of a block, of a tree, of itself, of one beside it; and when id is not closed, or none.
func TestAbove(t *testing.T) {
	h := heap(held(1, tree(at(9))), held(9, blob("")), held(2, root(at(1))), held(3, plain(at(1), at(2), 1)), held(4, plain(at(1), at(2), 1)), held(5, plain(at(1), at(3), 2)), held(6, plain(at(1), at(2), 3)))
	for _, x := range []struct {
		what    string
		old, id int
		want    answer
	}{
		{"itself", 3, 3, yes}, {"a root itself", 2, 2, yes}, {"a parent", 3, 5, yes}, {"a parent's", 2, 5, yes},
		{"one beside", 4, 3, no}, {"one beside its parent", 4, 5, no}, {"a child", 5, 3, no}, {"one that is not closed", 6, 5, no},
		{"not there", 77, 5, no}, {"a block", 9, 5, no}, {"a tree", 1, 5, no},
		{"id is not closed", 2, 6, wrong(api.ErrDag)}, {"itself, not closed", 6, 6, wrong(api.ErrDag)},
		{"id is not there", 2, 77, wrong(api.ErrNone)}, {"id is a block", 2, 9, wrong(api.ErrObject)}, {"id is a tree", 2, 1, wrong(api.ErrObject)},
		{"both not there", 77, 77, wrong(api.ErrNone)}, {"both a block", 9, 9, wrong(api.ErrObject)},
	} {
		tells(t, x.what, h, above(at(x.old), at(x.id)), x.want)
	}
}

// P8.4: bases of a commit and itself, of one above the other, of two that part once and twice, and that meet nowhere.
func TestBase(t *testing.T) {
	h := diamonds(2)
	h.List = append(h.List, held(20, root(at(1))), held(21, plain(at(1), at(20), 1)), held(30, plain(at(1), at(8), 5)), held(31, plain(at(1), at(6), 4)), held(32, plain(at(1), at(7), 4)),
		held(33, join(at(1), at(6), at(7), 4)), held(34, join(at(1), at(7), at(6), 4)), held(40, join(at(1), at(3), at(21), 2)))
	for _, x := range []struct {
		what       string
		a, b, base int
	}{
		{"a root and itself", 2, 2, 2}, {"a commit and itself", 8, 8, 8}, {"one above the other", 2, 3, 2}, {"one far above the other", 2, 30, 2}, {"one above a merge", 8, 30, 8},
		{"parted once", 3, 4, 2}, {"parted once", 6, 7, 5}, {"parted further up", 31, 32, 5}, {"a side and the other's merge", 31, 30, 6}, {"a side and the other's merge", 32, 30, 7},
		{"parted twice: of two of one Number the lower Id", 33, 34, 6}, {"parted twice", 8, 33, 6},
		{"nowhere", 20, 2, 0}, {"nowhere", 21, 30, 0}, {"nowhere", 20, 8, 0},
		{"of two roots", 40, 21, 21}, {"of two roots", 40, 30, 3}, {"of two roots", 40, 4, 2}, {"of two roots", 40, 20, 20},
	} {
		want := answer{id: at(x.base), is: true}
		if x.base == 0 {
			want = answer{}
		}
		tells(t, x.what, h, base(at(x.a), at(x.b)), want)
		tells(t, x.what+", the other way round", h, base(at(x.b), at(x.a)), want)
	}
}

// P8.4: errors of a go ahead of those of b, whichever they are.
func TestBaseErrors(t *testing.T) {
	h := heap(held(1, tree()), held(2, root(at(1))), held(3, plain(at(1), at(2), 2)), held(4, noObjects[3]))
	ids := []struct {
		id  int
		err api.Errno
	}{{2, api.OK}, {3, api.ErrDag}, {4, api.ErrObject}, {1, api.ErrObject}, {5, api.ErrNone}}
	for _, a := range ids {
		for _, b := range ids {
			want := answer{id: at(2), is: true}
			if b.err != api.OK {
				want = wrong(b.err)
			}
			if a.err != api.OK {
				want = wrong(a.err)
			}
			tells(t, strconv.Itoa(a.id)+" and "+strconv.Itoa(b.id), h, base(at(a.id), at(b.id)), want)
		}
	}
}

// P8.1: Put of nothing, of what is there, of one twice, of several in their order, behind what is there as it is.
func TestPut(t *testing.T) {
	one, two, leaves := blob("1"), blob("2"), tree(at(1))
	last := plain(at(1), at(2), 3)
	for _, x := range []struct {
		what string
		h    api.Heap
		l    []api.Object
		want api.Heap
	}{
		{"nothing", own(one, two), nil, own(one, two)},
		{"one", own(one), []api.Object{two}, own(one, two)},
		{"what is there", own(one, two), []api.Object{one}, own(one, two)},
		{"what is there, both", own(one, two), []api.Object{two, one}, own(one, two)},
		{"one twice", own(one), []api.Object{two, two}, own(one, two)},
		{"several", own(two), []api.Object{last, leaves, two, one, last}, own(two, last, leaves, one)},
		{"what stands there at another Id", heap(held(1, one)), []api.Object{one}, heap(held(1, one), api.Held{Id: idOf(one), Object: one})},
		{"whose Id another one has", heap(api.Held{Id: idOf(one), Object: two}), []api.Object{one, two}, heap(api.Held{Id: idOf(one), Object: two}, api.Held{Id: idOf(two), Object: two})},
		{"whose Id one has that may not be", heap(api.Held{Id: idOf(one), Object: noObjects[3]}), []api.Object{one}, heap(api.Held{Id: idOf(one), Object: noObjects[3]})},
		{"behind what may not be", heap(held(1, noObjects[4]), held(1, noObjects[11]), held(1, last)), []api.Object{last}, heap(held(1, noObjects[4]), held(1, noObjects[11]), held(1, last), api.Held{Id: idOf(last), Object: last})},
	} {
		tells(t, x.what, x.h, put(x.l...), answer{heap: x.want})
	}
	for i, o := range noObjects {
		what := "what may not be " + strconv.Itoa(i)
		for _, l := range [][]api.Object{{o}, {two, o}, {o, two}, {one, two, o}, {one, o, two, o}} {
			tells(t, what, own(one), put(l...), wrong(api.ErrObject))
		}
		tells(t, what+", at whose Id there is one", heap(api.Held{Object: one}), put(o), wrong(api.ErrObject))
	}
}

// P8.1: what Put answers shares no list with another one of its own, though one object came twice.
func TestPutSharesNothing(t *testing.T) {
	o := plain(at(1), at(2), 1)
	o.Note = "a"
	p := o
	p.Note = "b"
	made, err := dag.Put(heap(held(1, o), held(2, o)), []api.Object{o, p})
	if err != api.OK || len(made.List) != 4 {
		t.Fatal(made, err)
	}
	for i, x := range made.List {
		x.Object.Parents[0] = at(100 + i)
		x.Object.Edit.Rows[0].Path = strconv.Itoa(i)
	}
	for i, x := range made.List {
		if x.Object.Parents[0] != at(100+i) || x.Object.Edit.Rows[0].Path != strconv.Itoa(i) {
			t.Errorf("%d shares a list with another one", i)
		}
	}
	if o.Parents[0] != at(2) || o.Edit.Rows[0].Path != "a" {
		t.Error("what was handed in shares a list")
	}
}

// P8.2 to P8.4: a history of many thousand commits, one behind the other, and a heap with far more in it, take no longer than they are long.
func TestLongHistories(t *testing.T) {
	const n = 30000
	h := numbered(n)
	h.List[0].Object = tree(at(n + 10))
	h.List = append(h.List, held(n+10, blob("")))
	slices.Reverse(h.List)
	last := at(n + 2)
	if err := dag.Closed(h, last); err != api.OK {
		t.Fatal(err)
	}
	l, err := dag.History(h, last)
	if err != api.OK || len(l) != n+1 || l[0] != last || l[n] != at(2) {
		t.Error(len(l), err)
	}
	if id, ok, err := dag.Base(h, at(n/2), last); id != at(n/2) || !ok || err != api.OK {
		t.Error(id, ok, err)
	}
	if l := dag.Lacks(heap(h.List[1:]...), last); len(l) != 1 || l[0] != at(n+10) {
		t.Error(l)
	}
	if l, err := dag.Reach(h, last); err != api.OK || len(l) != n+3 {
		t.Error(len(l), err)
	}
	if made, err := dag.Put(h, []api.Object{blob("x")}); err != api.OK || len(made.List) != n+4 {
		t.Error(len(made.List), err)
	}
}

// P8.2, P8.3: ways that part and meet again and again, more than could be gone one by one.
func TestManyWays(t *testing.T) {
	const n = 200
	h := diamonds(n)
	top := at(2 + 3*n)
	if l, err := dag.History(h, top); err != api.OK || len(l) != 3*n+1 {
		t.Error(len(l), err)
	}
	if up, err := dag.Above(h, at(2), top); !up || err != api.OK {
		t.Error(up, err)
	}
	if err := dag.Closed(heap(h.List[1:]...), top); err != api.ErrDag {
		t.Error(err)
	}
}
