package dag_test

import (
	"math/rand"
	"slices"
	"strconv"
	"strings"
	"testing"

	"confluence/api"
	"confluence/object"
	"confluence/sha"
)

// The model goes by the chapter's words, each of them a walk over lists.

// modelAt is the object of an Id, whether there is one, and whether it may be.
func modelAt(h api.Heap, id api.Id) (o api.Object, there, may bool) {
	for _, x := range h.List {
		if x.Id == id {
			return x.Object, true, object.Check(x.Object) == api.OK
		}
	}
	return api.Object{}, false, false
}

// modelLed is what an Id leads to, beginning with it: row by row of links.
func modelLed(h api.Heap, id api.Id) []api.Id {
	list := []api.Id{id}
	for i := 0; i < len(list); i++ {
		o, there, may := modelAt(h, list[i])
		if !there || !may {
			continue
		}
		var links []api.Id
		if o.Kind == api.ObjCommit {
			links = append([]api.Id{o.Tree}, o.Parents...)
		}
		if o.Kind == api.ObjTree {
			for _, l := range o.Leaves {
				links = append(links, l.Id)
			}
		}
		for _, l := range links {
			if !slices.Contains(list, l) {
				list = append(list, l)
			}
		}
	}
	return list
}

// modelRise puts Ids in the order of their texts.
func modelRise(list []api.Id) []api.Id {
	slices.SortFunc(list, func(a, b api.Id) int { return strings.Compare(sha.Text(a), sha.Text(b)) })
	return list
}

// modelIs tells whether an Id is that of an object of this Kind that may be.
func modelIs(h api.Heap, id api.Id, kind int) bool {
	o, there, may := modelAt(h, id)
	return there && may && o.Kind == kind
}

// modelIsClosed tells whether a commit is closed.
func modelIsClosed(h api.Heap, id api.Id) bool {
	for _, x := range modelLed(h, id) {
		o, there, may := modelAt(h, x)
		if !there || !may {
			return false
		}
		if o.Kind == api.ObjCommit && !modelStands(h, o) {
			return false
		}
	}
	return true
}

// modelStands tells whether a commit's tree, its leaves and its parents are as they have to be.
func modelStands(h api.Heap, o api.Object) bool {
	if !modelIs(h, o.Tree, api.ObjTree) {
		return false
	}
	leaves, _, _ := modelAt(h, o.Tree)
	for _, l := range leaves.Leaves {
		if !modelIs(h, l.Id, api.ObjBlob) {
			return false
		}
	}
	byOne := false
	for _, id := range o.Parents {
		p, _, _ := modelAt(h, id)
		if !modelIs(h, id, api.ObjCommit) || p.Number >= o.Number {
			return false
		}
		byOne = byOne || uint64(p.Number)+1 == uint64(o.Number)
	}
	return byOne || len(o.Parents) == 0
}

// modelKind is the error of an Id's object, if it is to be of this Kind.
func modelKind(h api.Heap, id api.Id, kind int) api.Errno {
	o, there, may := modelAt(h, id)
	switch {
	case !there:
		return api.ErrNone
	case !may || o.Kind != kind:
		return api.ErrObject
	}
	return api.OK
}

func modelGet(h api.Heap, id api.Id) answer {
	o, there, may := modelAt(h, id)
	switch {
	case !there:
		return wrong(api.ErrNone)
	case !may:
		return wrong(api.ErrObject)
	}
	return answer{object: o}
}

func modelCommit(h api.Heap, id api.Id) answer {
	if err := modelKind(h, id, api.ObjCommit); err != api.OK {
		return wrong(err)
	}
	return modelGet(h, id)
}

func modelMap(h api.Heap, id api.Id) answer {
	if err := modelKind(h, id, api.ObjTree); err != api.OK {
		return wrong(err)
	}
	o, _, _ := modelAt(h, id)
	var m api.Map
	for _, l := range o.Leaves {
		if err := modelKind(h, l.Id, api.ObjBlob); err != api.OK {
			return wrong(err)
		}
		b, _, _ := modelAt(h, l.Id)
		m.Rows = append(m.Rows, api.Row{Path: l.Path, Text: b.Text})
	}
	return answer{texts: m}
}

func modelPut(h api.Heap, l []api.Object) answer {
	made := api.Heap{List: slices.Clone(h.List)}
	for _, o := range l {
		if object.Check(o) != api.OK {
			return wrong(api.ErrObject)
		}
		if _, there, _ := modelAt(made, idOf(o)); !there {
			made.List = append(made.List, api.Held{Id: idOf(o), Object: o})
		}
	}
	return answer{heap: made}
}

func modelClosed(h api.Heap, id api.Id) api.Errno {
	if err := modelKind(h, id, api.ObjCommit); err != api.OK {
		return err
	}
	if !modelIsClosed(h, id) {
		return api.ErrDag
	}
	return api.OK
}

func modelLacks(h api.Heap, id api.Id) answer {
	var list []api.Id
	for _, x := range modelLed(h, id) {
		if _, there, may := modelAt(h, x); !there || !may {
			list = append(list, x)
		}
	}
	return these(modelRise(list)...)
}

// modelPast is the history of a closed commit, in order: again and again the first one of what is left.
func modelPast(h api.Heap, id api.Id) []api.Id {
	var left, list []api.Id
	for _, x := range modelRise(modelLed(h, id)) {
		if modelIs(h, x, api.ObjCommit) {
			left = append(left, x)
		}
	}
	for len(left) > 0 {
		first := 0
		for i := range left {
			a, _, _ := modelAt(h, left[i])
			b, _, _ := modelAt(h, left[first])
			if a.Number > b.Number {
				first = i
			}
		}
		list = append(list, left[first])
		left = slices.Delete(left, first, first+1)
	}
	return list
}

func modelHistory(h api.Heap, id api.Id) answer {
	if err := modelClosed(h, id); err != api.OK {
		return wrong(err)
	}
	return these(modelPast(h, id)...)
}

func modelAbove(h api.Heap, old, id api.Id) answer {
	if err := modelClosed(h, id); err != api.OK {
		return wrong(err)
	}
	return answer{is: slices.Contains(modelPast(h, id), old)}
}

func modelReach(h api.Heap, id api.Id) answer {
	if err := modelClosed(h, id); err != api.OK {
		return wrong(err)
	}
	return these(modelRise(modelLed(h, id))...)
}

func modelBase(h api.Heap, a, b api.Id) answer {
	for _, id := range []api.Id{a, b} {
		if err := modelClosed(h, id); err != api.OK {
			return wrong(err)
		}
	}
	for _, id := range modelPast(h, a) {
		if slices.Contains(modelPast(h, b), id) {
			return answer{id: id, is: true}
		}
	}
	return answer{}
}

// asModel fails the test if a call of one Id answers something else than the model.
func asModel(t *testing.T, what string, h api.Heap, id api.Id) {
	t.Helper()
	if t.Failed() {
		return
	}
	what += ", " + sha.Text(id)[:8]
	tells(t, what, h, get(id), modelGet(h, id))
	tells(t, what, h, commit(id), modelCommit(h, id))
	tells(t, what, h, texts(id), modelMap(h, id))
	tells(t, what, h, closed(id), wrong(modelClosed(h, id)))
	tells(t, what, h, lacks(id), modelLacks(h, id))
	tells(t, what, h, history(id), modelHistory(h, id))
	tells(t, what, h, reach(id), modelReach(h, id))
}

// asModelTwo fails the test if a call of two Ids does.
func asModelTwo(t *testing.T, what string, h api.Heap, a, b api.Id) {
	t.Helper()
	if t.Failed() {
		return
	}
	what += ", " + sha.Text(a)[:8] + " and " + sha.Text(b)[:8]
	tells(t, what, h, above(a, b), modelAbove(h, a, b))
	tells(t, what, h, base(a, b), modelBase(h, a, b))
}

// small is objects of every kind that lead to these Ids, and nothing.
func small(ids []api.Id) []api.Object {
	list := []api.Object{{}, blob(""), noObjects[3], tree()}
	for _, x := range ids {
		list = append(list, tree(x), root(x))
		for _, y := range ids {
			list = append(list, tree(x, y), plain(x, y, 1), plain(x, y, 2))
			for _, z := range ids {
				if y != z {
					list = append(list, join(x, y, z, 1), join(x, y, z, 2))
				}
			}
		}
	}
	return list
}

// P8.1 to P8.4: all heaps of two such objects, beside a tree and a root.
func TestSmallHeapsAreTheModels(t *testing.T) {
	ids := ats(1, 2, 3)
	list := small(ids)
	for i, x := range list {
		for k, y := range list {
			h := heap(held(2, x), held(3, y), held(1, tree()))
			if i%2 == 0 {
				h.List[2].Object = root(at(2))
			}
			what := "small heap " + strconv.Itoa(i) + ", " + strconv.Itoa(k)
			for _, id := range append(ids, at(4)) {
				asModel(t, what, h, id)
			}
			asModelTwo(t, what, h, at(2), at(3))
			if t.Failed() {
				return
			}
		}
	}
}

// world is a heap that grows by chance, and its Ids by what they are of: digests, or such as are made up.
type world struct {
	chance                *rand.Rand
	heap                  api.Heap
	blobs, trees, commits []api.Id
	digests               bool
	next                  int
}

// pick is one of these, one of the later ones more often.
func (w *world) pick(ids []api.Id) api.Id {
	return ids[max(w.chance.Intn(len(ids)), w.chance.Intn(len(ids)))]
}

// add puts an object into the heap, at its own Id or at one that is made up.
func (w *world) add(o api.Object) api.Id {
	id := idOf(o)
	if !w.digests {
		w.next++
		id = api.Id{byte(w.chance.Intn(256)), byte(w.next)}
	}
	w.heap.List = append(w.heap.List, api.Held{Id: id, Object: o})
	return id
}

// number is the Number of the commit of an Id.
func (w *world) number(id api.Id) uint32 {
	o, _, _ := modelAt(w.heap, id)
	return o.Number
}

// grow adds an object by chance, which fits.
func (w *world) grow() {
	note := strconv.Itoa(w.chance.Intn(1000))
	switch n := w.chance.Intn(10); {
	case n < 2 || len(w.blobs) == 0:
		w.blobs = append(w.blobs, w.add(blob(note)))
	case n < 3 || len(w.trees) == 0:
		var leaves []api.Id
		for range w.chance.Intn(4) {
			leaves = append(leaves, w.pick(w.blobs))
		}
		w.trees = append(w.trees, w.add(tree(leaves...)))
	case n == 3 || len(w.commits) == 0:
		o := root(w.pick(w.trees))
		o.Note = note
		w.commits = append(w.commits, w.add(o))
	default:
		a, b := w.pick(w.commits), w.pick(w.commits)
		o := join(w.pick(w.trees), a, b, max(w.number(a), w.number(b))+1)
		if a == b || n < 7 {
			o = plain(w.pick(w.trees), a, w.number(a)+1)
		}
		o.Note = note
		w.commits = append(w.commits, w.add(o))
	}
}

// grown is such a heap of so many steps.
func grown(chance *rand.Rand, steps int) *world {
	w := &world{chance: chance, digests: chance.Intn(2) == 0}
	for range steps {
		w.grow()
	}
	return w
}

// any is an Id of the heap, or one that is not there.
func (w *world) any() api.Id {
	n := w.chance.Intn(len(w.heap.List) + 1)
	if n == len(w.heap.List) {
		return at(w.chance.Intn(3))
	}
	return w.heap.List[n].Id
}

// harm does something to the heap: takes one away, puts one there twice, bends one, changes two about.
func (w *world) harm() {
	l := w.heap.List
	i := w.chance.Intn(len(l))
	switch w.chance.Intn(7) {
	case 0:
		w.heap.List = slices.Delete(l, i, i+1)
	case 1:
		w.heap.List = slices.Insert(l, w.chance.Intn(len(l)), l[i])
	case 2:
		w.heap.List = append(l, api.Held{Id: w.any(), Object: l[i].Object})
	case 3:
		w.heap.List = slices.Insert(l, w.chance.Intn(len(l)), api.Held{Id: w.any(), Object: noObjects[w.chance.Intn(len(noObjects))]})
	case 4:
		k := w.chance.Intn(len(l))
		l[i], l[k] = l[k], l[i]
	default:
		l[i].Object = w.bent(l[i].Object)
	}
	if len(w.heap.List) == 0 {
		w.grow()
	}
}

// bent is an object of which something is another one.
func (w *world) bent(o api.Object) api.Object {
	o.Leaves, o.Parents = slices.Clone(o.Leaves), slices.Clone(o.Parents)
	switch {
	case o.Kind == api.ObjTree && len(o.Leaves) > 0:
		o.Leaves[w.chance.Intn(len(o.Leaves))].Id = w.any()
	case o.Kind == api.ObjCommit && w.chance.Intn(3) == 0:
		o.Tree = w.any()
	case o.Kind == api.ObjCommit && w.chance.Intn(2) == 0:
		o.Number += uint32(w.chance.Intn(5)) - 2
	case len(o.Parents) > 0:
		o.Parents[w.chance.Intn(len(o.Parents))] = w.any()
	}
	return o
}

// later is a commit of the heap, one of the later ones more often, or any Id.
func (w *world) later() api.Id {
	if len(w.commits) == 0 || w.chance.Intn(8) == 0 {
		return w.any()
	}
	return w.pick(w.commits)
}

// P8.1 to P8.4: heaps of chance, whole ones and harmed ones, of which each error is met, and none.
func TestHeapsOfChanceAreTheModels(t *testing.T) {
	chance := rand.New(rand.NewSource(8))
	met := map[api.Errno]int{}
	parted := map[bool]int{}
	for i := range 250 {
		w := grown(chance, 1+chance.Intn(30))
		for range max(0, chance.Intn(6)-2) {
			w.harm()
		}
		what := "heap of chance " + strconv.Itoa(i)
		for range 6 {
			a, b := w.later(), w.later()
			asModel(t, what, w.heap, a)
			asModelTwo(t, what, w.heap, a, b)
			met[modelClosed(w.heap, a)]++
			if x := modelBase(w.heap, a, b); x.err == api.OK {
				parted[x.is && x.id != a && x.id != b]++
			}
		}
		if t.Failed() {
			return
		}
	}
	for _, err := range []api.Errno{api.OK, api.ErrNone, api.ErrObject, api.ErrDag} {
		if met[err] < 40 {
			t.Errorf("error %d was met %d times only", err, met[err])
		}
	}
	if parted[true] < 40 || parted[false] < 40 {
		t.Error("bases", parted)
	}
}

// P8.1: Put of chance: what is there, what is new, what may not be, onto heaps of both kinds.
func TestPutsOfChanceAreTheModels(t *testing.T) {
	chance := rand.New(rand.NewSource(81))
	for i := range 1500 {
		w, other := grown(chance, 1+chance.Intn(15)), grown(chance, 1+chance.Intn(15))
		for range chance.Intn(3) {
			w.harm()
		}
		var l []api.Object
		for _, x := range append(slices.Clone(other.heap.List), w.heap.List...) {
			if chance.Intn(3) == 0 {
				l = append(l, x.Object)
			}
		}
		if chance.Intn(10) == 0 {
			l = append(l, noObjects[chance.Intn(len(noObjects))])
		}
		chance.Shuffle(len(l), func(i, k int) { l[i], l[k] = l[k], l[i] })
		tells(t, "put of chance "+strconv.Itoa(i), w.heap, put(l...), modelPut(w.heap, l))
		if t.Failed() {
			return
		}
	}
}

// P8.5: what follows, of heaps of chance, whole ones and harmed ones.
func TestWhatFollows(t *testing.T) {
	chance := rand.New(rand.NewSource(85))
	shut := 0
	for i := range 200 {
		w := grown(chance, 5+chance.Intn(25))
		for range max(0, chance.Intn(6)-3) {
			w.harm()
		}
		what := "what follows " + strconv.Itoa(i)
		for range 4 {
			if a := w.later(); closed(a).ask(w.heap).err == api.OK {
				shut++
				follows(t, what, w.heap, a)
				followsTwo(t, what, w.heap, a, w.later())
				stays(t, what, w, a)
			}
		}
		if t.Failed() {
			return
		}
	}
	if shut < 150 {
		t.Error("closed commits were met", shut, "times only")
	}
}

// follows fails the test if a closed commit lacks something, or a parent stands ahead of its child, or what is above a parent is not above it.
func follows(t *testing.T, what string, h api.Heap, a api.Id) {
	t.Helper()
	tells(t, what+": closed", h, lacks(a), these())
	tells(t, what+": itself", h, above(a, a), yes)
	list := history(a).ask(h).ids
	for i, id := range list {
		o := commit(id).ask(h).object
		for _, p := range o.Parents {
			if slices.Index(list, p) <= i {
				t.Errorf("%s: a parent stands ahead of its child", what)
			}
			for _, old := range history(p).ask(h).ids {
				tells(t, what+": above a parent", h, above(old, id), yes)
			}
		}
	}
}

// followsTwo fails the test if a base is not in both histories, hangs on which comes first, or is not the older one of two.
func followsTwo(t *testing.T, what string, h api.Heap, a, b api.Id) {
	t.Helper()
	got, back := base(a, b).ask(h), base(b, a).ask(h)
	if !got.same(back) {
		t.Errorf("%s: the base hangs on which comes first", what)
	}
	if got.err != api.OK || !got.is {
		return
	}
	tells(t, what+": the base", h, above(got.id, a), yes)
	tells(t, what+": the base", h, above(got.id, b), yes)
	if above(a, b).ask(h).is && got.id != a {
		t.Errorf("%s: the base of a commit and one above it is not the older one", what)
	}
}

// stays fails the test if what is put is not got, or what was closed is not closed any more.
func stays(t *testing.T, what string, w *world, a api.Id) {
	t.Helper()
	more := grown(w.chance, 6)
	var l []api.Object
	for _, x := range more.heap.List {
		l = append(l, x.Object)
	}
	made := put(l...).ask(w.heap)
	if made.err != api.OK {
		t.Errorf("%s: Put of what may be: error %d", what, made.err)
	}
	for _, o := range l {
		if _, there, _ := modelAt(w.heap, idOf(o)); !there {
			tells(t, what+": put", made.heap, get(idOf(o)), answer{object: o})
		}
	}
	tells(t, what+": put", made.heap, closed(a), answer{})
	tells(t, what+": put", made.heap, history(a), history(a).ask(w.heap))
}
