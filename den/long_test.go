package den_test

import (
	"slices"
	"strconv"
	"testing"

	"confluence/api"
	"confluence/dag"
	"confluence/den"
	"confluence/pathmap"
)

// digit is a text of one digit.
func digit(n int) string {
	return strconv.Itoa(n % 10)
}

// line is a heap of so many plain commits one behind the other, on a root of a 0: the n-th one, at 100 and n, says a and the last digit of n.
func line(n int) api.Heap {
	var h api.Heap
	for i := range 10 {
		leaf := api.Leaf{Path: "a", Id: at(20 + i)}
		h.List = append(h.List, held(20+i, blob(digit(i))), held(40+i, api.Object{Kind: api.ObjTree, Leaves: []api.Leaf{leaf}}))
	}
	h.List = append(h.List, held(100, api.Object{Kind: api.ObjCommit, Style: api.ComRoot, Tree: at(40)}))
	for i := 1; i <= n; i++ {
		o := plainOf(of(), uint32(i), noStamp, at(99+i), does("a", digit(i)))
		o.Tree = at(40 + i%10)
		h.List = append(h.List, held(100+i, o))
	}
	return h
}

// P9.1 to P9.3: a history of many thousand commits, one behind the other, takes no longer than it is long; what is wrong at its root is told at its end.
func TestLongLines(t *testing.T) {
	const n = 66000
	h := line(n)
	last := at(100 + n)
	slices.Reverse(h.List)
	if m, err := den.Den(h, last); err != api.OK || !pathmap.Same(m, of("a", digit(n))) {
		t.Error(m, err)
	}
	if err := den.Sound(h, last); err != api.OK {
		t.Error(err)
	}
	made, id, err := den.Plain(h, last, does("b", "1"), me)
	if err != api.OK || len(made.List) != len(h.List)+4 {
		t.Error(len(made.List), err)
	}
	if m, err := den.Den(made, id); err != api.OK || !pathmap.Same(m, of("a", digit(n), "b", "1")) {
		t.Error(m, err)
	}
	if _, _, err := den.Merge(h, at(100), last, api.Edit{}, me); err != api.ErrNone {
		t.Error(err)
	}
	for i, x := range h.List {
		if x.Id == at(100) {
			h.List[i].Object.Tree = at(41)
		}
		if x.Id == at(101) {
			h.List[i].Object.Edit = api.Edit{}
		}
	}
	if err := den.Sound(h, last); err != api.OK {
		t.Error("a 1 from the root on", err)
	}
	for i, x := range h.List {
		if x.Id == at(101) {
			h.List[i].Object.Tree = at(40)
		}
	}
	if err := den.Sound(h, last); err != api.ErrSound {
		t.Error("a 0 behind a root of a 1", err)
	}
}

// P9.4: a chain of many hundred commits is made anew, each of them once.
func TestLongRebase(t *testing.T) {
	const n = 700
	h := line(n)
	h, onto, err := den.Plain(h, at(100), does("b", "1"), me)
	if err != api.OK {
		t.Fatal(err)
	}
	made, id, err := den.Rebase(h, at(100+n), onto, me)
	if err != api.OK {
		t.Fatal(err)
	}
	if m, err := den.Den(made, id); err != api.OK || !pathmap.Same(m, of("a", digit(n), "b", "1")) {
		t.Error(m, err)
	}
	if l, err := dag.History(made, id); err != api.OK || len(l) != n+2 || l[n] != onto {
		t.Error(len(l), err)
	}
	if err := den.Sound(made, id); err != api.OK {
		t.Error(err)
	}
}

// ladder is a heap in which two part and meet so many times: the last merge stands at 103 and three times as many.
func ladder(n int) api.Heap {
	h := line(0)
	both := []api.Leaf{{Path: "a", Id: at(20)}, {Path: "b", Id: at(21)}}
	h.List = append(h.List, held(10, api.Object{Kind: api.ObjTree, Leaves: both}), held(11, api.Object{Kind: api.ObjTree, Leaves: both[:1]}), held(12, api.Object{Kind: api.ObjTree, Leaves: both[1:]}), held(13, api.Object{Kind: api.ObjTree}))
	low := 100
	for i := range n {
		number := uint32(2 * i)
		// By turns a comes and b goes, and b comes and a goes.
		left, right := does("a", gone), does("b", "1")
		trees := []int{13, 10, 12}
		if i%2 == 1 {
			left, right = does("a", "0"), does("b", gone)
			trees = []int{10, 13, 11}
		}
		o, p := plainOf(of(), number+1, noStamp, at(low), left), plainOf(of(), number+1, noStamp, at(low), right)
		q := mergeOf(of(), number+2, noStamp, at(low+1), at(low+2), at(low), api.Edit{})
		o.Tree, p.Tree, q.Tree = at(trees[0]), at(trees[1]), at(trees[2])
		h.List = append(h.List, held(low+1, o), held(low+2, p), held(low+3, q))
		low += 3
	}
	return h
}

// P9.1: ways that part and meet again and again, more than could be gone one by one, and merges more than could each be held against the whole heap.
func TestLongLadders(t *testing.T) {
	const n = 10000
	h := ladder(n)
	last := at(100 + 3*n)
	if m, err := den.Den(h, last); err != api.OK || !pathmap.Same(m, of("a", "0")) {
		t.Error(m, err)
	}
	if err := den.Sound(h, last); err != api.OK {
		t.Error(err)
	}
	low := slices.IndexFunc(h.List, func(x api.Held) bool { return x.Id == at(106) })
	h.List[low].Object.Base = at(100)
	if err := den.Sound(h, last); err != api.ErrSound {
		t.Error("a Base that is not the right one", err)
	}
	h.List[low].Object.Base = at(107)
	if m, err := den.Den(h, last); err != api.ErrDen {
		t.Error("a Base that is not behind", m, err)
	}
}
