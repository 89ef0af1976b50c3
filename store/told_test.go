package store_test

import (
	"slices"
	"strings"
	"testing"

	"confluence/api"
	"confluence/object"
	"confluence/store"
)

// P10.2 to P10.4: of no store ErrNil, nothing, false.
func TestNoStore(t *testing.T) {
	var s *store.Store
	for _, b := range []api.Batch{{}, puts(blob("a")), puts(api.Object{}), sets(fresh("", ""))} {
		is(t, "Commit", s.Commit(b), api.ErrNil)
	}
	swept(t, "Sweep", s, nil, 0, api.ErrNil)
	swept(t, "Sweep", s, ids(blob("a")), 0, api.ErrNil)
	if o, err := s.Get(modelId(blob("a"))); !object.Same(o, api.Object{}) || err != api.ErrNil {
		t.Errorf("Get: %v, error %d", o, err)
	}
	if v, there := s.Value("k"); len(v) > 0 || there {
		t.Errorf("Value: % x, %t", v, there)
	}
	if len(s.Names()) > 0 || len(s.Heap().List) > 0 || s.Broken() || s.Wal() != nil {
		t.Errorf("Names %q, Heap %v, Broken %t, Wal %v", s.Names(), s.Heap(), s.Broken(), s.Wal())
	}
}

// P10.4: what is told, and what is told where there is nothing.
func TestWhatIsTold(t *testing.T) {
	s := formatted(t, 60)
	list := family()
	ok(t, s.Commit(api.Batch{Objects: list[:4], Sets: []api.Set{fresh("b", "2"), fresh("ab", ""), fresh("a", "1")}}))
	ok(t, s.Commit(api.Batch{Objects: list, Sets: []api.Set{fresh("B", "3"), gone("b", "2")}}))
	for _, id := range []api.Id{{}, {1}, modelId(blob("nowhere"))} {
		if o, err := s.Get(id); !object.Same(o, api.Object{}) || err != api.ErrNone {
			t.Errorf("Get of what is not there: %v, error %d", o, err)
		}
	}
	for i, h := range s.Heap().List {
		o, err := s.Get(h.Id)
		if h.Id != modelId(list[i]) || !object.Same(h.Object, list[i]) || !object.Same(o, list[i]) || err != api.OK {
			t.Errorf("object %d: %v, %v, error %d", i, h, o, err)
		}
	}
	if got := strings.Join(s.Names(), " "); got != "B a ab" {
		t.Errorf("Names: %q", got)
	}
	for name, want := range map[string]string{"B": "3", "a": "1", "ab": ""} {
		if v, there := s.Value(name); string(v) != want || !there {
			t.Errorf("Value(%q): %q, %t", name, v, there)
		}
	}
	for _, name := range []string{"", "b", "A", "aa", "abc", "c", text(33), text(5000)} {
		if v, there := s.Value(name); len(v) > 0 || there {
			t.Errorf("Value(%q): %q, %t", name, v, there)
		}
	}
}

// P10.3: what stays: the roots, what they lead to, and all values; a Sweep is a new snapshot, whatever goes.
func TestSweep(t *testing.T) {
	list := family()
	for _, c := range []struct {
		what  string
		roots []api.Object
		stay  []int
	}{
		{"no roots", nil, nil},
		{"all", list, []int{0, 1, 2, 3, 4, 5, 6, 7, 8, 9, 10, 11}},
		{"a blob", list[2:3], []int{2}},
		{"the first one", list[:1], []int{0}},
		{"a tree", list[4:5], []int{0, 4}},
		{"a tree without leaves", list[3:4], []int{3}},
		{"a root", list[6:7], []int{0, 4, 6}},
		{"a commit with a parent", list[7:8], []int{0, 1, 2, 4, 5, 6, 7}},
		{"a merge", list[9:10], []int{0, 1, 2, 3, 4, 5, 6, 7, 8, 9}},
		{"the last one", list[11:], []int{0, 1, 2, 3, 4, 5, 6, 7, 8, 9, 10, 11}},
		{"two, the later one first", []api.Object{list[8], list[2]}, []int{0, 2, 3, 4, 6, 8}},
		{"one twice", []api.Object{list[1], list[1]}, []int{1}},
		{"one that another one leads to", []api.Object{list[4], list[0]}, []int{0, 4}},
	} {
		s := formatted(t, 60)
		m := done(t, s, modelStore(60), puts(list...), sets(fresh("k", "1"), fresh("j", "")))
		m.objects = nil
		for _, i := range c.stay {
			m.objects = append(m.objects, list[i])
		}
		m, _ = m.renewed()
		swept(t, c.what, s, ids(c.roots...), len(list)-len(c.stay), api.OK)
		lasts(t, c.what, s, m)
		if string(s.Wal().Snapshot()) != string(modelBytes(m.whole())) || s.Wal().Turn() != 1 || s.Wal().Len() != 0 {
			t.Errorf("%s: no new snapshot of what stays", c.what)
		}
		swept(t, c.what+", again", s, ids(c.roots...), 0, api.OK)
		m, _ = m.renewed()
		lasts(t, c.what+", again", s, m)
		m = done(t, s, m, puts(list...), api.Batch{Objects: []api.Object{blob("new")}, Sets: []api.Set{gone("k", "1")}})
		lasts(t, c.what+", and all once more", s, m)
	}
}

// P10.3: a root that is not there; one that went; and a store with nothing, of which a snapshot is a batch with nothing.
func TestSweepOfWhatIsNotThere(t *testing.T) {
	a, b := blob("a"), blob("b")
	s := formatted(t, 20)
	m := done(t, s, modelStore(20), puts(a))
	was := s.Wal().Disk().Ops()
	for _, roots := range [][]api.Id{{{}}, ids(b), ids(a, b), ids(b, a), ids(a, a, b), {modelId(a), {}}} {
		swept(t, "a root that is not there", s, roots, 0, api.ErrNone)
	}
	if s.Wal().Disk().Ops() != was {
		t.Error("what was refused did something with the disk")
	}
	lasts(t, "what was refused", s, m)
	swept(t, "no roots", s, nil, 1, api.OK)
	swept(t, "what has gone", s, ids(a), 0, api.ErrNone)
	if row := s.Wal().Snapshot(); string(row) != "\x00\x00\x00" {
		t.Errorf("a snapshot of nothing: % x", row)
	}
	swept(t, "nothing", s, nil, 0, api.OK)
	m, _, _ = m.sweep(nil)
	m, _, _ = m.sweep(nil)
	lasts(t, "nothing", s, m)
	lasts(t, "it comes again", s, done(t, s, m, puts(b, a)))
	s = formatted(t, 20)
	swept(t, "a new store", s, nil, 0, api.OK)
	if s.Wal().Turn() != 1 {
		t.Error("a Sweep of nothing is no new snapshot")
	}
}

// P10.3, P10.6: of a long history, what is behind a commit stays, and nothing else.
func TestSweepOfAHistory(t *testing.T) {
	none := tree()
	list := []api.Object{none, commit(api.ComRoot, none)}
	for i := range 200 {
		o := commit(api.ComPlain, none, list[len(list)-1])
		o.Number = uint32(i + 1)
		list = append(list, o)
	}
	s := formatted(t, 1000)
	ok(t, s.Commit(puts(list...)))
	for _, n := range []int{202, 201, 150, 149, 2, 1} {
		gone := len(s.Heap().List) - n
		swept(t, "a history", s, ids(list[n-1]), gone, api.OK)
		lastsInShort(t, "a history", s, model{objects: list[:n]})
	}
}

// spoil makes each list of an object another one, as far as its room goes.
func spoil(o api.Object) {
	for i := range o.Leaves {
		o.Leaves[i] = api.Leaf{Path: "spoilt"}
	}
	for i := range o.Parents {
		o.Parents[i] = api.Id{99}
	}
	for i := range o.Edit.Rows {
		o.Edit.Rows[i] = api.Change{Path: "spoilt"}
	}
	_ = append(o.Leaves, api.Leaf{Path: "spoilt"})
	_ = append(o.Parents, api.Id{99})
	_ = append(o.Edit.Rows, api.Change{Path: "spoilt"})
}

// spoilBatch makes all of a batch another one.
func spoilBatch(b api.Batch) {
	for i, o := range b.Objects {
		spoil(o)
		b.Objects[i] = blob("spoilt")
	}
	for i, x := range b.Sets {
		for _, row := range [][]byte{x.Old, x.New} {
			for k := range row {
				row[k] ^= 255
			}
			_ = append(row, 99)
		}
		b.Sets[i] = fresh("spoilt", "")
	}
}

// edited is a commit with all that one may have.
func edited() []api.Object {
	list := family()
	o := list[7]
	o.Edit.Rows = []api.Change{{Path: "a", Is: true, Text: "1"}, {Path: "b"}}
	return append(list[:7], o)
}

// roomy is a row with room behind its end, which has this.
func roomy[R any](row []R, odd R) []R {
	whole := append(slices.Clone(row), odd, odd, odd)
	return whole[:len(row)]
}

// P10.2, P10.5: what is handed in is not changed, nor the room behind it, and not kept.
func TestNothingHandedInIsKept(t *testing.T) {
	build := func() api.Batch {
		b := api.Batch{Sets: roomy([]api.Set{fresh("z", "12"), nothing("m"), fresh("a", "34")}, fresh("odd", ""))}
		for i := range b.Sets {
			b.Sets[i].New = roomy(b.Sets[i].New, 77)
		}
		for _, o := range edited() {
			o.Leaves = roomy(o.Leaves, api.Leaf{Path: "odd"})
			o.Parents = roomy(o.Parents, api.Id{77})
			o.Edit.Rows = roomy(o.Edit.Rows, api.Change{Path: "odd"})
			b.Objects = append(b.Objects, o)
		}
		b.Objects = roomy(b.Objects, blob("odd"))
		return b
	}
	s := formatted(t, 60)
	b := build()
	ok(t, s.Commit(b))
	row, err := store.Encode(b)
	ok(t, err)
	if !sameBatch(b, build()) {
		t.Errorf("what was handed in is %v", b)
	}
	for i, o := range b.Objects {
		if o := o.Leaves[:cap(o.Leaves)]; !slices.Contains(o, api.Leaf{Path: "odd"}) {
			t.Errorf("behind the Leaves of object %d: %v", i, o)
		}
		if o := o.Parents[:cap(o.Parents)]; !slices.Contains(o, api.Id{77}) {
			t.Errorf("behind the Parents of object %d: %v", i, o)
		}
		if o := o.Edit.Rows[:cap(o.Edit.Rows)]; !slices.Contains(o, api.Change{Path: "odd"}) {
			t.Errorf("behind the Edit of object %d: %v", i, o)
		}
	}
	if x := b.Objects[:len(b.Objects)+3]; x[len(b.Objects)].Text != "odd" || x[len(b.Objects)+2].Text != "odd" {
		t.Error("the room behind the Objects")
	}
	if x := b.Sets[:len(b.Sets)+3]; x[3].Name != "odd" || x[5].Name != "odd" || b.Sets[0].New[:3][2] != 77 {
		t.Error("the room behind the Sets")
	}
	want, _ := modelStore(60).commit(build())
	spoilBatch(b)
	lasts(t, "what was handed in is spoilt", s, want)
	roots := roomy(ids(edited()[7]), api.Id{77})
	swept(t, "Sweep", s, roots, 1, api.OK)
	if roots[0] != modelId(edited()[7]) || roots[:2][1] != (api.Id{77}) {
		t.Error("the roots are other ones")
	}
	want, _, _ = want.sweep(roots)
	roots[0] = api.Id{}
	lasts(t, "the roots are spoilt", s, want)
	got, err := store.Decode(row)
	ok(t, err)
	for i := range row {
		row[i] = 255
	}
	if !sameBatch(got, build()) {
		t.Error("the batch shares memory with its bytes")
	}
}

// P10.4, P10.5: what is handed out is nobody else's.
func TestNothingHandedOutIsShared(t *testing.T) {
	s := formatted(t, 60)
	m := done(t, s, modelStore(60), api.Batch{Objects: edited(), Sets: []api.Set{fresh("k", "12"), fresh("l", "34")}})
	for range 2 {
		for _, o := range edited() {
			got, err := s.Get(modelId(o))
			ok(t, err)
			spoil(got)
			shows(t, "Get", s, m)
		}
		h := s.Heap()
		for i, x := range h.List {
			spoil(x.Object)
			for k, y := range h.List[i+1:] {
				if !object.Same(y.Object, m.objects[i+1+k]) {
					t.Fatalf("objects %d and %d of a heap share a list", i, i+1+k)
				}
			}
			h.List[i] = api.Held{}
		}
		_ = append(h.List, api.Held{})
		shows(t, "Heap", s, m)
		v, _ := s.Value("k")
		v[0], v[1] = 0, 0
		_ = append(v, 99)
		shows(t, "Value", s, m)
		names := s.Names()
		names[0], names[1] = "", ""
		shows(t, "Names", s, m)
		m, _, _ = m.sweep(ids(m.objects...))
		swept(t, "Sweep", s, ids(m.objects...), 0, api.OK)
		s = opened(t, s.Wal().Disk())
	}
	row := modelBytes(m.whole())
	first, err := store.Decode(row)
	ok(t, err)
	second, err := store.Decode(row)
	ok(t, err)
	spoilBatch(first)
	if !sameBatch(second, m.whole()) {
		t.Error("Decode: two answers share memory")
	}
	for i := range second.Sets {
		second.Sets[i].New[0] = 0
		_ = append(second.Sets[i].New, 99)
	}
	if _, err := store.Encode(second); err != api.OK || !slices.EqualFunc(second.Objects, m.objects, object.Same) {
		t.Error("Decode: an answer shares memory with itself")
	}
}
