package store_test

import (
	"fmt"
	"slices"
	"strings"
	"testing"

	"confluence/api"
	"confluence/disk"
	"confluence/object"
	"confluence/store"
	"confluence/wal"
)

// text is a text of n bytes.
func text(n int) string {
	return strings.Repeat("x", n)
}

// blob, tree and commit are objects of those Kinds; a leaf, and a commit, link to the objects that they are handed.
func blob(s string) api.Object { return api.Object{Kind: api.ObjBlob, Text: s} }

func tree(leaves ...api.Leaf) api.Object { return api.Object{Kind: api.ObjTree, Leaves: leaves} }

func leaf(path string, o api.Object) api.Leaf { return api.Leaf{Path: path, Id: modelId(o)} }

func commit(style int, on api.Object, parents ...api.Object) api.Object {
	o := api.Object{Kind: api.ObjCommit, Style: style, Tree: modelId(on), Number: uint32(len(parents))}
	for _, p := range parents {
		o.Parents = append(o.Parents, modelId(p))
	}
	return o
}

// fresh, changed, gone and nothing are Sets: of a name that has no value, that has another one, that is to have none, and that never had one.
func fresh(name, now string) api.Set { return api.Set{Name: name, Is: true, New: []byte(now)} }

func changed(name, old, now string) api.Set {
	return api.Set{Name: name, Was: true, Old: []byte(old), Is: true, New: []byte(now)}
}

func gone(name, old string) api.Set { return api.Set{Name: name, Was: true, Old: []byte(old)} }

func nothing(name string) api.Set { return api.Set{Name: name} }

// puts and sets are batches.
func puts(list ...api.Object) api.Batch { return api.Batch{Objects: list} }

func sets(list ...api.Set) api.Batch { return api.Batch{Sets: list} }

// ids are the Ids of objects.
func ids(list ...api.Object) []api.Id {
	var made []api.Id
	for _, o := range list {
		made = append(made, modelId(o))
	}
	return made
}

// is fails the test if an error is another one.
func is(t *testing.T, what string, got, want api.Errno) {
	t.Helper()
	if got != want {
		t.Errorf("%s: error %d, not %d", what, got, want)
	}
}

// ok fails the test if one of these calls told an error.
func ok(t *testing.T, errs ...api.Errno) {
	t.Helper()
	for i, err := range errs {
		if err != api.OK {
			t.Errorf("call %d: error %d", i, err)
		}
	}
}

// empty is a disk of so many sectors.
func empty(t *testing.T, sectors int) *disk.Disk {
	t.Helper()
	d, err := disk.New(sectors)
	if err != api.OK {
		t.Fatalf("New(%d): error %d", sectors, err)
	}
	return d
}

// formatted is a store with nothing, on a disk of its own that has just room for it.
func formatted(t *testing.T, area int) *store.Store {
	t.Helper()
	s, err := store.Format(empty(t, 2+2*area), area)
	if s == nil || err != api.OK {
		t.Fatalf("Format(%d): error %d, or no store", area, err)
	}
	return s
}

// swept fails the test if a Sweep answers something else.
func swept(t *testing.T, what string, s *store.Store, roots []api.Id, want int, err api.Errno) {
	t.Helper()
	if n, e := s.Sweep(roots); n != want || e != err {
		t.Errorf("%s: Sweep: %d, error %d; not %d, %d", what, n, e, want, err)
	}
}

// done is the model behind batches that are committed one by one to it, and to a store.
func done(t *testing.T, s *store.Store, m model, list ...api.Batch) model {
	t.Helper()
	for _, b := range list {
		next, err := m.commit(b)
		ok(t, err, s.Commit(b))
		m = next
	}
	return m
}

// P10.1 to P10.5: the chapter's examples.
func TestExamples(t *testing.T) {
	s := formatted(t, 20)
	b := blob("a")
	f := tree(leaf("a", b))
	is(t, "a tree alone", s.Commit(puts(f)), api.ErrNone)
	ok(t, s.Commit(api.Batch{Objects: []api.Object{b, f}, Sets: []api.Set{fresh("k", "\x07")}}))
	if o, err := s.Get(modelId(b)); !object.Same(o, b) || err != api.OK {
		t.Errorf("Get: %v, error %d", o, err)
	}
	if v, there := s.Value("k"); string(v) != "\x07" || !there {
		t.Errorf("Value: % x, %t", v, there)
	}
	if n := len(s.Heap().List); n != 2 {
		t.Errorf("%d objects", n)
	}
	is(t, "another value", s.Commit(sets(changed("k", "\x08", "\x09"))), api.ErrStale)
	ok(t, s.Commit(sets(gone("k", "\x07"))))
	if len(s.Names()) != 0 {
		t.Errorf("Names: %q", s.Names())
	}
	swept(t, "the blob stays", s, ids(b), 1, api.OK)
	swept(t, "the tree is gone", s, ids(f), 0, api.ErrNone)
	if x, err := store.Decode([]byte{0, 0, 0}); len(x.Objects)+len(x.Sets) != 0 || err != api.OK {
		t.Errorf("Decode(00 00 00): %v, error %d", x, err)
	}
	if _, err := store.Decode([]byte{0, 1}); err != api.ErrShort {
		t.Errorf("Decode(00 01): error %d", err)
	}
}

// P10.1: a store with nothing, over the log of wal.Format, whatever was there; and its errors.
func TestFormat(t *testing.T) {
	d := empty(t, 43)
	s, err := store.Format(d, 20)
	ok(t, err)
	lasts(t, "Format", s, modelStore(20))
	if s.Wal().Disk() != d || s.Broken() {
		t.Error("a store of another disk, or a broken one")
	}
	done(t, s, modelStore(20), puts(blob("a")), sets(fresh("k", "1")))
	s, err = store.Format(d, 19)
	ok(t, err)
	lasts(t, "Format over a store", s, modelStore(19))
	for _, area := range []int{-1, 0, 3, 22, 1000, 1001, 1 << 62} {
		if s, err := store.Format(d, area); s != nil || err != api.ErrArg {
			t.Errorf("Format(%d): error %d, or a store", area, err)
		}
	}
	lasts(t, "what was refused", opened(t, d), modelStore(19))
	for _, area := range []int{0, 4, 20} {
		if s, err := store.Format(nil, area); s != nil || err != api.ErrNil {
			t.Errorf("Format of no disk: error %d, or a store", err)
		}
	}
}

// refuses fails the test if Open answers another error, or a store beside it.
func refuses(t *testing.T, what string, d *disk.Disk, want api.Errno) {
	t.Helper()
	if s, err := store.Open(d); s != nil || err != want {
		t.Errorf("%s: Open: error %d, not %d, or a store", what, err, want)
	}
}

// P10.1: the errors of wal.Open.
func TestOpenRefuses(t *testing.T) {
	refuses(t, "no disk", nil, api.ErrNil)
	refuses(t, "one sector", empty(t, 1), api.ErrArg)
	refuses(t, "a new disk", empty(t, 42), api.ErrWal)
	d := formatted(t, 4).Wal().Disk()
	ok(t, d.Arm(0))
	d.Sync()
	refuses(t, "no power", d, api.ErrDead)
	for k := range 6 {
		ok(t, d.Crash(nil), d.Fail(k))
		refuses(t, "an operation that fails", d, api.ErrIo)
	}
	lasts(t, "Open", opened(t, d), modelStore(4))
}

// logOf is a disk with a log of a snapshot and transactions.
func logOf(t *testing.T, snapshot []byte, transactions ...[]byte) *disk.Disk {
	t.Helper()
	d := empty(t, 202)
	w, err := wal.Format(d, 100)
	ok(t, err, w.Checkpoint(snapshot))
	for _, row := range transactions {
		ok(t, w.Append(row))
	}
	return d
}

// bent is a row of bytes in which the one at a place is another one.
func bent(row []byte, at int, to byte) []byte {
	row = slices.Clone(row)
	row[at] = to
	return row
}

// P10.1: which snapshots say a store: no bytes, and the bytes of the batch that brings it, that batch alone.
func TestWhatSnapshotsSay(t *testing.T) {
	a, b := blob("a"), blob("b")
	one := tree(leaf("a", a))
	for what, x := range map[string]api.Batch{
		"nothing":             {},
		"objects":             puts(b, a, one),
		"values":              sets(fresh("a", "1"), fresh("b", ""), fresh("ba", "2")),
		"names of odd bytes":  sets(fresh("\x00", "1"), fresh("\x00\x00", ""), fresh("\xff", "2")),
		"objects, and values": {Objects: []api.Object{a, one}, Sets: []api.Set{fresh(text(32), "1")}},
	} {
		m := modelStore(100).with(x)
		m.turn, m.snapshot = 1, modelBytes(x)
		shows(t, what, opened(t, logOf(t, modelBytes(x))), m)
		refuses(t, what+", and a byte behind it", logOf(t, append(modelBytes(x), 0)), api.ErrStore)
		refuses(t, what+", and itself behind it", logOf(t, append(modelBytes(x), modelBytes(x)...)), api.ErrStore)
		for n := 1; n < len(modelBytes(x)); n++ {
			refuses(t, what+", cut off", logOf(t, modelBytes(x)[:n]), api.ErrStore)
		}
	}
	m := modelStore(100)
	m.turn = 1
	shows(t, "no bytes", opened(t, logOf(t, nil)), m)
	for what, row := range map[string][]byte{
		"no batch":                       {7},
		"an object that is none":         {0, 1, 0, 1, 9, 0},
		"a name without bytes":           {0, 0, 1, 0, 0, 0, 0, 1, 0, 0},
		"a 2 for an Is":                  {0, 0, 1, 1, 'k', 0, 0, 0, 2, 0, 0},
		"a 2 for a Was":                  {0, 0, 1, 1, 'k', 2, 0, 0, 1, 0, 0},
		"names that fall":                modelBytes(sets(fresh("b", "1"), fresh("a", "1"))),
		"the longer name first":          modelBytes(sets(fresh("aa", "1"), fresh("a", "1"))),
		"two that fall, among rising":    modelBytes(sets(fresh("a", "1"), fresh("c", "1"), fresh("b", "1"), fresh("d", "1"))),
		"a name twice":                   modelBytes(sets(fresh("a", "1"), fresh("a", "1"))),
		"a Was":                          modelBytes(sets(changed("a", "", "1"))),
		"a Was without an Is":            modelBytes(sets(gone("a", ""))),
		"neither Was nor Is":             modelBytes(sets(nothing("a"))),
		"neither, behind one that rises": modelBytes(sets(fresh("a", "1"), nothing("b"))),
		"an object twice":                modelBytes(puts(a, b, a)),
		"a tree ahead of its blob":       modelBytes(puts(one, a)),
		"a tree without its blob":        modelBytes(puts(b, one)),
	} {
		refuses(t, what, logOf(t, row), api.ErrStore)
		refuses(t, what+", ahead of a transaction", logOf(t, row, modelBytes(puts(b))), api.ErrStore)
	}
}

// P10.1: which transactions say a store, in their order.
func TestWhatTransactionsSay(t *testing.T) {
	a, b := blob("a"), blob("b")
	one, both := tree(leaf("a", a)), tree(leaf("a", a), leaf("b", b))
	start := modelBytes(api.Batch{Objects: []api.Object{a}, Sets: []api.Set{fresh("k", "1")}})
	for what, script := range map[string][]api.Batch{
		"nothing":                    {{}},
		"nothing, twice":             {{}, {}},
		"objects of the snapshot":    {puts(one)},
		"objects of a transaction":   {puts(b), puts(both)},
		"objects of the same one":    {puts(b, both)},
		"names that fall":            {sets(fresh("m", "1"), fresh("l", "2"))},
		"a value that was":           {sets(changed("k", "1", "2")), sets(changed("k", "2", "3")), sets(gone("k", "3"))},
		"a name that had no value":   {sets(nothing("l"))},
		"a value that is what it is": {sets(changed("k", "1", "1"))},
	} {
		m := modelStore(100).with(api.Batch{Objects: []api.Object{a}, Sets: []api.Set{fresh("k", "1")}})
		m.turn, m.snapshot = 1, start
		for _, x := range script {
			is(t, what, m.fits(x), api.OK)
			m = m.with(x)
			m.transactions = append(m.transactions, modelBytes(x))
		}
		shows(t, what, opened(t, logOf(t, start, m.transactions...)), m)
	}
	many := make([]api.Set, 127)
	for i := range many {
		many[i] = fresh(fmt.Sprint("n", i), "")
	}
	full := modelBytes(sets(many...))
	for what, rows := range map[string][][]byte{
		"no bytes":                           {nil},
		"no batch":                           {{7}},
		"a byte behind a batch":              {append(modelBytes(puts(b)), 0)},
		"a byte less":                        {modelBytes(puts(b))[:6]},
		"a 2 for an Is":                      {bent(modelBytes(sets(nothing("l"))), 8, 2)},
		"a name without bytes":               {{0, 0, 1, 0, 0, 0, 0, 1, 0, 0}},
		"an object of the snapshot":          {modelBytes(puts(a))},
		"an object of the snapshot, and new": {modelBytes(puts(b, a))},
		"an object of a transaction":         {modelBytes(puts(b)), modelBytes(puts(b))},
		"an object twice":                    {modelBytes(puts(b, b))},
		"a tree without its blob":            {modelBytes(puts(both))},
		"a tree ahead of its blob":           {modelBytes(puts(both, b))},
		"a tree a transaction ahead":         {modelBytes(puts(both)), modelBytes(puts(b))},
		"a value that is there":              {modelBytes(sets(fresh("k", "2")))},
		"another value":                      {modelBytes(sets(changed("k", "2", "3")))},
		"a value that is gone":               {modelBytes(sets(gone("k", "1"))), modelBytes(sets(changed("k", "1", "2")))},
		"a name too many":                    {full, modelBytes(sets(fresh("l", "")))},
	} {
		refuses(t, what, logOf(t, start, rows...), api.ErrStore)
		refuses(t, what+", behind another one", logOf(t, nil, append([][]byte{start}, rows...)...), api.ErrStore)
	}
	opened(t, logOf(t, start, full))
	opened(t, logOf(t, start, full, modelBytes(sets(gone("k", "1"), fresh("l", "")))))
}

// many are n blobs of two bytes.
func many(n int) []api.Object {
	var list []api.Object
	for i := range n {
		list = append(list, blob(string([]byte{byte(i / 256), byte(i % 256)})))
	}
	return list
}

// numbered are n Sets of names without values, fresh ones; they rise.
func numbered(n int) []api.Set {
	var list []api.Set
	for i := range n {
		list = append(list, fresh(fmt.Sprint(1000+i), "v"))
	}
	return list
}

// bad are batches that may not be.
func bad() map[string]api.Batch {
	commitOfNothing := commit(api.ComRoot, blob("a"))
	commitOfNothing.Tree = api.Id{}
	return map[string]api.Batch{
		"4097 objects":             puts(many(4097)...),
		"4097 times one object":    puts(slices.Repeat(many(1), 4097)...),
		"10000 objects":            puts(slices.Repeat(many(1), 10000)...),
		"an object of no Kind":     puts(api.Object{}),
		"an object of Kind 4":      puts(blob("a"), api.Object{Kind: 4}),
		"a text that is too long":  puts(blob(text(257))),
		"a blob with a note":       puts(api.Object{Kind: api.ObjBlob, Note: "n"}),
		"paths that fall":          puts(blob("a"), tree(leaf("b", blob("a")), leaf("a", blob("a")))),
		"a commit without a tree":  puts(commitOfNothing),
		"the last one of many":     puts(append(many(30), api.Object{})...),
		"129 Sets":                 sets(numbered(129)...),
		"1000 Sets":                sets(numbered(1000)...),
		"no name":                  sets(fresh("", "1")),
		"a name of 33 bytes":       sets(fresh(text(33), "1")),
		"a long name":              sets(fresh(text(256+5), "1")),
		"a name twice":             sets(fresh("k", "1"), fresh("k", "1")),
		"a name twice, apart":      sets(fresh("k", "1"), fresh("a", "1"), fresh("z", "1"), nothing("k")),
		"a name goes, and comes":   sets(gone("k", "1"), fresh("k", "2")),
		"a New of 4097 bytes":      sets(fresh("k", text(4097))),
		"a New of 65540 bytes":     sets(fresh("k", text(65540))),
		"an Old of 4097 bytes":     sets(gone("k", text(4097))),
		"an Old of 65540 bytes":    sets(changed("k", text(65540), "1")),
		"an Old without a Was":     sets(api.Set{Name: "k", Old: []byte("1"), Is: true}),
		"a New without an Is":      sets(api.Set{Name: "k", Was: true, New: []byte("1")}),
		"an Old, neither Was nor":  sets(api.Set{Name: "k", Old: []byte("1")}),
		"a New, neither Was nor":   sets(api.Set{Name: "k", New: []byte("1")}),
		"the last one of all Sets": sets(append(numbered(127), fresh("", "1"))...),
	}
}

// P10.2, P10.5: batches that may not be are ErrArg, and change nothing.
func TestBatchesThatMayNotBe(t *testing.T) {
	s := formatted(t, 20)
	m := done(t, s, modelStore(20), api.Batch{Objects: []api.Object{blob("a")}, Sets: []api.Set{fresh("k", "1")}})
	before := s.Wal().Disk().Ops()
	for what, b := range bad() {
		is(t, what, s.Commit(b), api.ErrArg)
		shows(t, what, s, m)
		if row, err := store.Encode(b); len(row) > 0 || err != api.ErrArg {
			t.Errorf("%s: Encode: %d bytes, error %d", what, len(row), err)
		}
	}
	if s.Wal().Disk().Ops() != before {
		t.Error("what was refused did something with the disk")
	}
	lasts(t, "what was refused", s, m)
}

// P10.2, P10.5: batches that may just be.
func TestBatchesThatMayJustBe(t *testing.T) {
	a, all := blob("a"), many(4096)
	for _, c := range []struct {
		what    string
		batch   api.Batch
		objects []api.Object
	}{
		{"nothing but a Set of nothing", sets(nothing("k")), nil},
		{"4096 objects", puts(all...), all},
		{"4096 times one object", puts(slices.Repeat(all[:1], 4096)...), all[:1]},
		{"an object of 800 bytes", puts(a, longest(a)), []api.Object{a, longest(a)}},
		{"128 Sets", sets(numbered(128)...), nil},
		{"names of 1 and 32 bytes", sets(fresh(text(32), "1"), fresh("\x00", "1")), nil},
		{"a New of 4096 bytes", sets(fresh("k", text(4096))), nil},
		{"an empty value", sets(fresh("k", "")), nil},
	} {
		row, err := store.Encode(c.batch)
		ok(t, err)
		if string(row) != string(modelBytes(c.batch)) {
			t.Errorf("%s: Encode: other bytes", c.what)
		}
		s := formatted(t, 1000)
		ok(t, s.Commit(c.batch))
		if n := s.Wal().Len(); n != 1 {
			t.Errorf("%s: %d transactions", c.what, n)
		}
		m := modelStore(1000).with(sets(c.batch.Sets...))
		m.objects = c.objects
		lastsInShort(t, c.what, s, m)
	}
	s := formatted(t, 1000)
	m := done(t, s, modelStore(1000), sets(fresh("k", text(4096))), sets(changed("k", text(4096), "")), sets(changed("k", "", "1")), sets(gone("k", "1")), sets(nothing("k")))
	lasts(t, "one value after the other", s, m)
}

// longest is a tree of as many bytes as an object may have; it links to a blob.
func longest(b api.Object) api.Object {
	o := api.Object{Kind: api.ObjTree}
	for i := range 18 {
		o.Leaves = append(o.Leaves, leaf(fmt.Sprint(10000000000+i), b))
	}
	row, _ := object.Encode(o)
	o.Leaves[17].Path += text(800 - len(row))
	return o
}

// lastsInShort is as lasts, for stores with so many objects that the model is slow: the objects are held against its list alone.
func lastsInShort(t *testing.T, what string, s *store.Store, m model) {
	t.Helper()
	for _, s := range []*store.Store{s, opened(t, s.Wal().Disk().Copy())} {
		same := func(h api.Held, o api.Object) bool { return object.Same(h.Object, o) }
		if !slices.EqualFunc(s.Heap().List, m.objects, same) {
			t.Errorf("%s: other objects", what)
		}
		if len(s.Names()) != len(m.values) {
			t.Errorf("%s: %d names, not %d", what, len(s.Names()), len(m.values))
		}
		for name, v := range m.values {
			if got, there := s.Value(name); string(got) != v || !there {
				t.Errorf("%s: another value of %q", what, name)
			}
		}
	}
}
