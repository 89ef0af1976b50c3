package den_test

import (
	"math/rand"
	"slices"
	"strconv"
	"testing"

	"confluence/api"
	"confluence/dag"
	"confluence/merge"
	"confluence/object"
	"confluence/pathmap"
)

// The model goes by the chapter's words: by recursion on what stands behind a commit, each time anew.

// modelDenotes is what a closed commit denotes, and whether it denotes anything.
func modelDenotes(h api.Heap, id api.Id) (api.Map, bool) {
	o, _ := dag.Get(h, id)
	var err api.Errno
	var m api.Map
	switch o.Style {
	case api.ComRoot:
		m, err = dag.Map(h, o.Tree)
		return m, err == api.OK && pathmap.Check(m) == api.OK
	case api.ComPlain:
		on, ok := modelDenotes(h, o.Parents[0])
		m, err = pathmap.Apply(on, o.Edit)
		return m, ok && err == api.OK
	}
	base, baseOk := modelBase(h, id, o.Base)
	ours, oursOk := modelDenotes(h, o.Parents[0])
	theirs, theirsOk := modelDenotes(h, o.Parents[1])
	m, err = merge.Merge(base, ours, theirs, o.Edit)
	return m, baseOk && oursOk && theirsOk && err == api.OK
}

// modelBase is what the Base of a merge denotes: no rows, if it is zero.
func modelBase(h api.Heap, id, base api.Id) (api.Map, bool) {
	if base == (api.Id{}) {
		return api.Map{}, true
	}
	past, _ := dag.History(h, id)
	if base == id || !slices.Contains(past, base) {
		return api.Map{}, false
	}
	return modelDenotes(h, base)
}

func modelDen(h api.Heap, id api.Id) answer {
	if err := dag.Closed(h, id); err != api.OK {
		return wrong(err)
	}
	m, ok := modelDenotes(h, id)
	if !ok {
		return wrong(api.ErrDen)
	}
	return answer{texts: m}
}

func modelSound(h api.Heap, id api.Id) api.Errno {
	past, err := dag.History(h, id)
	if err != api.OK {
		return err
	}
	for _, x := range past {
		if _, ok := modelDenotes(h, x); !ok {
			return api.ErrDen
		}
	}
	for _, x := range past {
		o, _ := dag.Get(h, x)
		has, _ := modelDenotes(h, x)
		says, _ := dag.Map(h, o.Tree)
		if !pathmap.Same(has, says) {
			return api.ErrSound
		}
		if o.Style == api.ComMerge {
			if base, _, _ := dag.Base(h, o.Parents[0], o.Parents[1]); o.Base != base {
				return api.ErrSound
			}
		}
	}
	return api.OK
}

// modelMade is a heap, and behind it a commit of a map.
func modelMade(h api.Heap, m api.Map, o api.Object) answer {
	parts, err := object.Parts(m)
	if err != api.OK {
		return wrong(err)
	}
	o.Kind, o.Tree, o.Number = api.ObjCommit, parts[len(parts)-1].Id, 0
	for _, id := range o.Parents {
		p, _ := dag.Get(h, id)
		o.Number = max(o.Number, p.Number+1)
	}
	id, err := object.Id(o)
	if err != api.OK {
		return wrong(err)
	}
	var put []api.Object
	for _, x := range append(parts, api.Held{Id: id, Object: o}) {
		first := slices.IndexFunc(h.List, func(y api.Held) bool { return y.Id == x.Id })
		if first >= 0 && !object.Same(h.List[first].Object, x.Object) {
			return wrong(api.ErrTwin)
		}
		put = append(put, x.Object)
	}
	made, err := dag.Put(h, put)
	return answer{heap: made, id: id, err: err}
}

// modelDraft is a commit without a tree and a number.
func modelDraft(style int, s api.Stamp, base api.Id, e api.Edit, parents ...api.Id) api.Object {
	return api.Object{Style: style, Parents: parents, Base: base, Edit: e, Author: s.Author, Note: s.Note}
}

func modelRoot(h api.Heap, m api.Map, s api.Stamp) answer {
	if err := pathmap.Check(m); err != api.OK {
		return wrong(err)
	}
	return modelMade(h, m, modelDraft(api.ComRoot, s, api.Id{}, api.Edit{}))
}

func modelPlain(h api.Heap, on api.Id, e api.Edit, s api.Stamp) answer {
	if err := modelSound(h, on); err != api.OK {
		return wrong(err)
	}
	m, err := pathmap.Apply(modelDen(h, on).texts, e)
	if err != api.OK {
		return wrong(err)
	}
	return modelMade(h, m, modelDraft(api.ComPlain, s, api.Id{}, e, on))
}

// modelThree is what the base of two commits and both denote, and which it is; the error of the one that is not sound.
func modelThree(h api.Heap, a, b api.Id) (l [3]api.Map, base api.Id, met bool, err api.Errno) {
	for _, id := range []api.Id{a, b} {
		if err := modelSound(h, id); err != api.OK {
			return l, base, false, err
		}
	}
	base, met, err = dag.Base(h, a, b)
	if met {
		l[0] = modelDen(h, base).texts
	}
	l[1], l[2] = modelDen(h, a).texts, modelDen(h, b).texts
	return l, base, met, err
}

// modelStraight tells whether one of two closed commits is above the other one.
func modelStraight(h api.Heap, a, b api.Id) bool {
	up, _ := dag.Above(h, a, b)
	down, _ := dag.Above(h, b, a)
	return up || down
}

func modelConflicts(h api.Heap, a, b api.Id) answer {
	l, _, _, err := modelThree(h, a, b)
	if err != api.OK {
		return wrong(err)
	}
	c, err := merge.Conflicts(l[0], l[1], l[2])
	return answer{conflicts: c, err: err}
}

func modelMerge(h api.Heap, a, b api.Id, by api.Edit, s api.Stamp) answer {
	l, base, _, err := modelThree(h, a, b)
	if err != api.OK {
		return wrong(err)
	}
	if modelStraight(h, a, b) {
		return wrong(api.ErrNone)
	}
	m, err := merge.Merge(l[0], l[1], l[2], by)
	if err != api.OK {
		return wrong(err)
	}
	return modelMade(h, m, modelDraft(api.ComMerge, s, base, by, a, b))
}

func modelRebase(h api.Heap, from, onto api.Id, s api.Stamp) answer {
	_, base, met, err := modelThree(h, from, onto)
	if err != api.OK {
		return wrong(err)
	}
	if !met || modelStraight(h, from, onto) {
		return wrong(api.ErrNone)
	}
	var chain []api.Object
	for next := from; next != base; {
		o, _ := dag.Get(h, next)
		if o.Style != api.ComPlain {
			return wrong(api.ErrChain)
		}
		chain = append([]api.Object{o}, chain...)
		next = o.Parents[0]
	}
	last := answer{heap: h, id: onto}
	for _, o := range chain {
		has := modelDen(last.heap, last.id).texts
		m, err := merge.Rebase(modelDen(h, o.Parents[0]).texts, has, o.Edit)
		if err != api.OK {
			return wrong(err)
		}
		e, err := pathmap.Diff(has, m)
		if err != api.OK {
			return wrong(err)
		}
		if last = modelMade(last.heap, m, modelDraft(api.ComPlain, s, api.Id{}, e, last.id)); last.err != api.OK {
			return last
		}
	}
	return last
}

// world is a heap that grows by chance, at digests or at Ids that are made up, and its commits.
type world struct {
	chance  *rand.Rand
	heap    api.Heap
	commits []api.Id
	digests bool
	next    int
}

// edit is an edit of few paths.
func (w *world) edit() api.Edit {
	var e api.Edit
	for _, p := range []string{"a", "b", "c", "d"} {
		switch n := w.chance.Intn(16); {
		case n == 0:
			e.Rows = append(e.Rows, api.Change{Path: p})
		case n < 5:
			e.Rows = append(e.Rows, api.Change{Path: p, Is: true, Text: strconv.Itoa(n % 3)})
		}
	}
	return e
}

// stamp is one of few.
func (w *world) stamp() api.Stamp {
	return api.Stamp{Author: uint32(w.chance.Intn(3)), Note: []string{"", "n"}[w.chance.Intn(2)]}
}

// put puts an object at its digest, or at an Id that is made up.
func (w *world) put(o api.Object) api.Id {
	id := idOf(o)
	if !w.digests {
		w.next++
		id = api.Id{byte(w.chance.Intn(256)), byte(w.next >> 8), byte(w.next)}
	}
	w.heap.List = append(w.heap.List, api.Held{Id: id, Object: o})
	return id
}

// tree puts the parts of a map.
func (w *world) tree(m api.Map) api.Id {
	o := api.Object{Kind: api.ObjTree}
	for _, r := range m.Rows {
		o.Leaves = append(o.Leaves, api.Leaf{Path: r.Path, Id: w.put(blob(r.Text))})
	}
	return w.put(o)
}

// commit puts a commit of a map.
func (w *world) commit(m api.Map, o api.Object) {
	o.Kind, o.Tree = api.ObjCommit, w.tree(m)
	for _, id := range o.Parents {
		p, _ := dag.Get(w.heap, id)
		o.Number = max(o.Number, p.Number+1)
	}
	w.commits = append(w.commits, w.put(o))
}

// pick is one of the commits, one of the later ones more often.
func (w *world) pick() api.Id {
	return w.commits[max(w.chance.Intn(len(w.commits)), w.chance.Intn(len(w.commits)))]
}

// by resolves the conflicts of three maps.
func (w *world) by(l [3]api.Map) api.Edit {
	e, _ := merge.Take(l[0], l[1], l[2], w.chance.Intn(3))
	for i := range e.Rows {
		if w.chance.Intn(3) == 0 {
			e.Rows[i] = api.Change{Path: e.Rows[i].Path, Is: true, Text: "r"}
		}
	}
	return e
}

// grow adds a sound commit by chance.
func (w *world) grow() {
	if len(w.commits) == 0 || w.chance.Intn(12) == 0 {
		m, _ := pathmap.Apply(api.Map{}, w.edit())
		w.commit(m, modelDraft(api.ComRoot, w.stamp(), api.Id{}, api.Edit{}))
		return
	}
	a, b := w.pick(), w.pick()
	if w.chance.Intn(2) > 0 || modelStraight(w.heap, a, b) {
		e := w.edit()
		m, _ := pathmap.Apply(modelDen(w.heap, a).texts, e)
		w.commit(m, modelDraft(api.ComPlain, w.stamp(), api.Id{}, e, a))
		return
	}
	l, base, _, _ := modelThree(w.heap, a, b)
	by := w.by(l)
	m, _ := merge.Merge(l[0], l[1], l[2], by)
	w.commit(m, modelDraft(api.ComMerge, w.stamp(), base, by, a, b))
}

// grown is such a world of so many commits, all of them sound.
func grown(chance *rand.Rand, steps int) *world {
	w := &world{chance: chance, digests: chance.Intn(2) == 0}
	for range steps {
		w.grow()
	}
	return w
}

// any is an Id of the heap, or one that is not there.
func (w *world) any() api.Id {
	n := w.chance.Intn(len(w.heap.List) + 1)
	if n == len(w.heap.List) {
		return at(w.chance.Intn(3))
	}
	return w.heap.List[n].Id
}

// harm does something to the heap: bends an object, takes one away, puts another one ahead of it.
func (w *world) harm() {
	l := w.heap.List
	switch i := w.chance.Intn(len(l)); w.chance.Intn(12) {
	case 0:
		w.heap.List = slices.Delete(l, i, i+1)
	case 1:
		other := l[w.chance.Intn(len(l))].Object
		w.heap.List = slices.Insert(l, w.chance.Intn(i+1), api.Held{Id: l[i].Id, Object: other})
	case 2:
		w.heap.List = slices.Insert(l, w.chance.Intn(len(l)), api.Held{Id: w.any(), Object: api.Object{Kind: 5}})
	case 3:
		w.heap.List = append(l, api.Held{Id: w.any(), Object: l[i].Object})
	default:
		id := w.pick()
		// Most that may go wrong goes wrong with merges.
		for range 4 {
			if o, _ := dag.Get(w.heap, id); o.Style != api.ComMerge {
				id = w.pick()
			}
		}
		for i := range l {
			if l[i].Id == id {
				w.bend(&l[i].Object)
			}
		}
	}
	if len(w.heap.List) == 0 {
		w.grow()
	}
}

// bend makes a commit another one.
func (w *world) bend(o *api.Object) {
	other, _ := dag.Get(w.heap, w.pick())
	o.Parents = slices.Clone(o.Parents)
	switch n := w.chance.Intn(8); {
	case n < 2:
		o.Tree = other.Tree
	case n == 2:
		slices.Reverse(o.Parents)
	case n == 3 && len(o.Parents) > 0:
		o.Parents[0], o.Number = w.pick(), uint32(w.chance.Intn(4))
	case n < 7 && o.Style == api.ComMerge:
		o.Base = []api.Id{{}, w.pick(), w.pick(), o.Parents[0], w.any()}[w.chance.Intn(5)]
	case o.Style != api.ComRoot:
		o.Edit = w.edit()
	}
}

// later is a commit, or any Id.
func (w *world) later() api.Id {
	if len(w.commits) == 0 || w.chance.Intn(15) == 0 {
		return w.any()
	}
	return w.pick()
}

// resolved is an edit for two commits: one that fits, most often.
func (w *world) resolved(a, b api.Id) api.Edit {
	l, _, _, err := modelThree(w.heap, a, b)
	if err != api.OK || w.chance.Intn(4) == 0 {
		return w.edit()
	}
	return w.by(l)
}

// asModel fails the test if a call answers something else than the model, here and where an unlike object has the Id of what is made.
func asModel(t *testing.T, what string, w *world, c call, model func(h api.Heap) answer, met map[string]int) {
	t.Helper()
	want := model(w.heap)
	tells(t, what, w.heap, c, want)
	met[c.name+" "+strconv.Itoa(int(want.err))]++
	if want.err != api.OK || len(want.heap.List) <= len(w.heap.List) {
		return
	}
	made := want.heap.List[len(w.heap.List):]
	x := api.Held{Id: made[w.chance.Intn(len(made))].Id, Object: blob("unlike")}
	h := api.Heap{List: slices.Insert(slices.Clone(w.heap.List), w.chance.Intn(len(w.heap.List)+1), x)}
	tells(t, what, h, c, model(h))
	met[c.name+" "+strconv.Itoa(int(model(h).err))]++
}

// P9.1 to P9.4: heaps of chance, sound ones and harmed ones, of which each call meets each of its errors, and none.
func TestHeapsOfChanceAreTheModels(t *testing.T) {
	chance := rand.New(rand.NewSource(9))
	met := map[string]int{}
	for i := range 400 {
		w := grown(chance, 1+chance.Intn(14))
		for range max(0, chance.Intn(8)-3) {
			w.harm()
		}
		what := "heap of chance " + strconv.Itoa(i)
		for range 5 {
			a, b, s, e := w.later(), w.later(), w.stamp(), w.edit()
			by := w.resolved(a, b)
			m, _ := pathmap.Apply(api.Map{}, w.edit())
			asModel(t, what, w, denoted(a), func(h api.Heap) answer { return modelDen(h, a) }, met)
			asModel(t, what, w, sound(a), func(h api.Heap) answer { return wrong(modelSound(h, a)) }, met)
			asModel(t, what, w, rooted(m, s), func(h api.Heap) answer { return modelRoot(h, m, s) }, met)
			asModel(t, what, w, plain(a, e, s), func(h api.Heap) answer { return modelPlain(h, a, e, s) }, met)
			asModel(t, what, w, conflicts(a, b), func(h api.Heap) answer { return modelConflicts(h, a, b) }, met)
			asModel(t, what, w, merged(a, b, by, s), func(h api.Heap) answer { return modelMerge(h, a, b, by, s) }, met)
			asModel(t, what, w, rebased(a, b, s), func(h api.Heap) answer { return modelRebase(h, a, b, s) }, met)
		}
		if t.Failed() {
			return
		}
	}
	for _, x := range []string{"Den 0", "Den 4", "Den 160", "Den 180", "Den 190", "Sound 0", "Sound 190", "Sound 191", "Root 0", "Root 161", "Plain 0", "Plain 161", "Plain 180", "Plain 190", "Plain 191",
		"Conflicts 0", "Conflicts 180", "Conflicts 190", "Conflicts 191", "Merge 0", "Merge 4", "Merge 161", "Merge 170", "Merge 190", "Merge 191", "Rebase 0", "Rebase 4", "Rebase 161", "Rebase 170", "Rebase 190", "Rebase 191", "Rebase 192"} {
		if met[x] < 10 {
			t.Errorf("%s was met %d times only", x, met[x])
		}
	}
}

// grownWell fails the test if what was made is not sound, or what was sound is not so any more, or has become something else.
func grownWell(t *testing.T, what string, w *world, made answer, want api.Map) {
	t.Helper()
	tells(t, what, made.heap, sound(made.id), answer{})
	tells(t, what, made.heap, denoted(made.id), answer{texts: want})
	for _, id := range w.commits {
		if was := sound(id).ask(w.heap); was.err == api.OK {
			tells(t, what+": what was sound", made.heap, sound(id), answer{})
			tells(t, what+": what was sound", made.heap, denoted(id), denoted(id).ask(w.heap))
		}
	}
}

// each fails the test if a path of a merge has what none of the three has, and nobody has said.
func each(t *testing.T, what string, l [3]api.Map, by api.Edit, m api.Map) {
	t.Helper()
	for _, p := range pathmap.Paths(l[0], l[1], l[2], m) {
		text, is := pathmap.Get(m, p)
		ok := slices.Contains(by.Rows, api.Change{Path: p, Is: is, Text: text})
		for _, x := range l {
			s, there := pathmap.Get(x, p)
			ok = ok || there == is && s == text
		}
		if !ok {
			t.Errorf("%s: %s has %q", what, p, text)
		}
	}
}

// P9.5: what follows, of heaps of chance, sound ones and harmed ones.
func TestWhatFollows(t *testing.T) {
	chance := rand.New(rand.NewSource(95))
	met := map[string]int{}
	for i := range 500 {
		w := grown(chance, 2+chance.Intn(9))
		for range max(0, chance.Intn(5)-3) {
			w.harm()
		}
		what := "what follows " + strconv.Itoa(i)
		a, b, s, e := w.later(), w.later(), w.stamp(), w.edit()
		if made := plain(a, e, s).ask(w.heap); made.err == api.OK {
			met["Plain"]++
			want, _ := pathmap.Apply(denoted(a).ask(w.heap).texts, e)
			grownWell(t, what+": Plain", w, made, want)
		}
		if made := rooted(denoted(a).ask(w.heap).texts, s).ask(w.heap); made.err == api.OK {
			met["Root"]++
			grownWell(t, what+": Root", w, made, denoted(a).ask(w.heap).texts)
		}
		by := w.resolved(a, b)
		if made := merged(a, b, by, s).ask(w.heap); made.err == api.OK {
			met["Merge"]++
			got := denoted(made.id).ask(made.heap).texts
			l, _, _, _ := modelThree(w.heap, a, b)
			each(t, what, l, by, got)
			grownWell(t, what+": Merge", w, made, got)
			if back := merged(b, a, by, s).ask(w.heap); len(by.Rows) == 0 {
				met["back"]++
				grownWell(t, what+": Merge of both sides about", w, back, got)
			}
		}
		if made := rebased(a, b, s).ask(w.heap); made.err == api.OK {
			met["Rebase"]++
			l, base, _, _ := modelThree(w.heap, a, b)
			if o, _ := dag.Get(w.heap, a); o.Parents[0] == base {
				met["Rebase of one"]++
				want, _ := merge.Merge(l[0], l[1], l[2], api.Edit{})
				grownWell(t, what+": Rebase of one", w, made, want)
			}
			for _, x := range made.heap.List[len(w.heap.List):] {
				if x.Object.Kind == api.ObjCommit {
					tells(t, what+": each of them", made.heap, sound(x.Id), answer{})
				}
			}
		}
		if t.Failed() {
			return
		}
	}
	for _, x := range []string{"Root", "Plain", "Merge", "back", "Rebase", "Rebase of one"} {
		if met[x] < 20 {
			t.Errorf("%s was met %d times only", x, met[x])
		}
	}
}
