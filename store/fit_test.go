package store_test

import (
	"fmt"
	"math"
	"slices"
	"testing"

	"confluence/api"
	"confluence/disk"
	"confluence/octet"
	"confluence/sha"
	"confluence/store"
)

// flaw is what is wrong with a Commit, and what it tells.
type flaw struct {
	what string
	put  func(b *api.Batch)
	err  api.Errno
}

// flaws are what may be wrong with a Commit to the store of TestWhichErrorIsFirst, in the order in which it is asked.
func flaws() []flaw {
	object := func(o api.Object) func(b *api.Batch) {
		return func(b *api.Batch) { b.Objects = append(b.Objects, o) }
	}
	set := func(x api.Set) func(b *api.Batch) {
		return func(b *api.Batch) { b.Sets = append([]api.Set{x}, b.Sets...) }
	}
	return []flaw{
		{"an object that may not be", object(blob(text(300))), api.ErrArg},
		{"a name that is none", set(fresh("", "1")), api.ErrArg},
		{"a link to nowhere", object(tree(leaf("a", blob("nowhere")))), api.ErrNone},
		{"another value", set(changed("1001", "w", "1")), api.ErrStale},
		{"a value of a name that has none", set(changed("n", "", "1")), api.ErrStale},
		{"no value of a name that has one", set(fresh("1002", "1")), api.ErrStale},
		{"a name too many", set(fresh("one more", "1")), api.ErrFull},
		{"no room", set(changed("1003", "v", text(4096))), api.ErrFull},
	}
}

// P10.2: of all that is wrong with a batch the first is told, and nothing changes; of a broken store ErrIo, of none ErrNil.
func TestWhichErrorIsFirst(t *testing.T) {
	s := formatted(t, 80)
	m := done(t, s, modelStore(80), sets(numbered(128)...))
	broken := opened(t, s.Wal().Disk().Copy())
	ok(t, broken.Wal().Disk().Fail(0))
	is(t, "a disk that fails", broken.Commit(puts(blob("b"))), api.ErrIo)
	var none *store.Store
	for picked := range 1 << len(flaws()) {
		var b api.Batch
		want, names := api.OK, 0
		for i, f := range flaws() {
			if picked>>i%2 == 0 {
				continue
			}
			f.put(&b)
			names++
			if want == api.OK {
				want = f.err
			}
		}
		if names == 0 {
			continue
		}
		is(t, "Commit", s.Commit(b), want)
		_, err := m.commit(b)
		is(t, "the model", err, want)
		is(t, "a broken store", broken.Commit(b), api.ErrIo)
		is(t, "no store", none.Commit(b), api.ErrNil)
		if t.Failed() {
			t.Fatalf("flaws %b", picked)
		}
	}
	lasts(t, "what was refused", s, m)
	shows(t, "a broken store", broken, m)
}

// P10.2: links: to what stands in the store, or ahead in the batch; not to what is behind, nor to nowhere. A Base is no link. What is known is not asked for its links.
func TestLinks(t *testing.T) {
	a, b := blob("a"), blob("b")
	one, both := tree(leaf("a", a)), tree(leaf("a", a), leaf("b", b))
	root := commit(api.ComRoot, one)
	plain := commit(api.ComPlain, one, root)
	side := commit(api.ComPlain, both, root)
	merge := commit(api.ComMerge, one, plain, side)
	merge.Base = api.Id{7}
	for _, c := range []struct {
		what       string
		first, now []api.Object
		err        api.Errno
	}{
		{"in the store", []api.Object{a}, []api.Object{one}, api.OK},
		{"in the batch", nil, []api.Object{a, one}, api.OK},
		{"in the batch, behind", nil, []api.Object{one, a}, api.ErrNone},
		{"in both", []api.Object{a}, []api.Object{b, both}, api.OK},
		{"in the store, and behind", []api.Object{a}, []api.Object{both, b}, api.ErrNone},
		{"in the store, and nowhere", []api.Object{a}, []api.Object{both}, api.ErrNone},
		{"nowhere, behind one that fits", []api.Object{a}, []api.Object{one, b, side}, api.ErrNone},
		{"a commit without its tree", []api.Object{a}, []api.Object{root}, api.ErrNone},
		{"a commit with its tree", []api.Object{a, one}, []api.Object{root}, api.OK},
		{"a commit without its parent", []api.Object{a, one}, []api.Object{plain}, api.ErrNone},
		{"a commit ahead of its parent", []api.Object{a, one}, []api.Object{plain, root}, api.ErrNone},
		{"a commit with its parent", []api.Object{a, one, root}, []api.Object{plain}, api.OK},
		{"a merge without one of both", []api.Object{a, b, one, both, root, side}, []api.Object{merge}, api.ErrNone},
		{"a merge without the other one", []api.Object{a, b, one, both, root, plain}, []api.Object{merge}, api.ErrNone},
		{"a merge with both, its Base nowhere", []api.Object{a, b, one, both, root, side}, []api.Object{plain, merge}, api.OK},
		{"a known one ahead of what it leads to", []api.Object{a, one}, []api.Object{one, a, b}, api.OK},
		{"twice", nil, []api.Object{a, one, one, a}, api.OK},
		{"a tree of commits", []api.Object{a, one, root}, []api.Object{tree(leaf("x", root), leaf("y", one))}, api.OK},
		{"a commit of a blob", []api.Object{a}, []api.Object{commit(api.ComRoot, a)}, api.OK},
	} {
		s := formatted(t, 60)
		m := done(t, s, modelStore(60), puts(c.first...))
		is(t, c.what, s.Commit(puts(c.now...)), c.err)
		m, err := m.commit(puts(c.now...))
		is(t, c.what, err, c.err)
		lasts(t, c.what, s, m)
	}
}

// P10.2: what Was and Old have to be.
func TestValuesThatWere(t *testing.T) {
	for old, list := range map[string][]api.Set{
		"12": {changed("k", "12", ""), gone("k", "12"), changed("k", "12", "12")},
		"":   {changed("k", "", "1"), gone("k", ""), changed("k", "", "")},
	} {
		s := formatted(t, 20)
		m := done(t, s, modelStore(20), sets(fresh("k", old), fresh("l", "13")))
		for _, x := range []api.Set{
			changed("k", "1", "5"), changed("k", "123", "5"), changed("k", "13", "5"), gone("k", "1"), fresh("k", old), nothing("k"),
			changed("m", "", "5"), gone("m", ""), changed("kk", old, "5"), changed("K", old, "5"), changed("l", old, "5"),
		} {
			for _, b := range []api.Batch{sets(x), sets(fresh("a", "1"), x), sets(x, fresh("z", "1")), {Objects: many(1), Sets: []api.Set{x}}} {
				is(t, "another value", s.Commit(b), api.ErrStale)
			}
		}
		lasts(t, "what was refused", s, m)
		for _, x := range list {
			u := opened(t, s.Wal().Disk().Copy())
			lasts(t, "the value", u, done(t, u, m, sets(x, nothing("m"))))
		}
	}
}

// P10.2: as many names as there may be, and one more, unless another one goes: ahead of it, or behind.
func TestHowManyNames(t *testing.T) {
	s := formatted(t, 200)
	m := done(t, s, modelStore(200), sets(numbered(127)...), sets(fresh("a", "1")))
	lasts(t, "128 names", s, m)
	for _, b := range []api.Batch{
		sets(fresh("b", "1")), sets(changed("a", "1", "2"), fresh("b", "1")), sets(fresh("b", "1"), gone("a", "1"), fresh("c", "1")), sets(fresh("b", ""), nothing("c")),
		sets(numbered(128)[127:]...), {Objects: many(3), Sets: []api.Set{fresh("zz", "1")}},
	} {
		is(t, "a name too many", s.Commit(b), api.ErrFull)
	}
	lasts(t, "what was refused", s, m)
	m = done(t, s, m, sets(fresh("b", "1"), gone("a", "1")), sets(gone("b", "1"), fresh("c", "1")), sets(nothing("d"), changed("c", "1", "2")), sets(gone("c", "2"), gone("1000", "v")), sets(fresh("zz", "1"), fresh("y", "2")))
	lasts(t, "names that come and go", s, m)
	is(t, "a name too many", s.Commit(sets(fresh("b", "1"))), api.ErrFull)
	all := numbered(127)[1:]
	for i := range all {
		all[i] = gone(all[i].Name, "v")
	}
	m = done(t, s, m, sets(append(all, gone("y", "2"), gone("zz", "1"))...))
	lasts(t, "no names", s, m)
	m = done(t, s, m, sets(numbered(128)...))
	lasts(t, "128 names at once", s, m)
}

// P10.2: what is known, in the store, or within the batch, is passed over; if there is nothing else, nothing is written.
func TestKnownObjects(t *testing.T) {
	a, b := blob("a"), blob("b")
	one := tree(leaf("a", a))
	s := formatted(t, 30)
	m := done(t, s, modelStore(30), puts(a, one))
	was := s.Wal().Disk().Ops()
	m = done(t, s, m, puts(), puts(a), puts(one), puts(one, a, a, one), puts(slices.Repeat([]api.Object{a, one}, 2048)...))
	if s.Wal().Disk().Ops() != was || s.Wal().Len() != 1 || s.Wal().Turn() != 0 {
		t.Error("what was known was written")
	}
	lasts(t, "all known", s, m)
	m = done(t, s, m, puts(a, b, a, b, one))
	if rows := s.Wal().Len(); rows != 2 || len(s.Heap().List) != 3 {
		t.Errorf("%d transactions", rows)
	}
	lasts(t, "b alone is new", s, m)
	m = done(t, s, m, api.Batch{Objects: []api.Object{a, b}, Sets: []api.Set{nothing("k")}}, sets(fresh("k", "1")), sets(changed("k", "1", "1")))
	if rows := s.Wal().Len(); rows != 5 {
		t.Errorf("%d transactions, not 5: Sets are written, though nothing becomes of them", rows)
	}
	lasts(t, "Sets that change nothing", s, m)
	ok(t, s.Wal().Disk().Fail(0))
	is(t, "a disk that fails", s.Commit(puts(b, blob("c"))), api.ErrIo)
	is(t, "a broken store, and nothing to be written", s.Commit(puts(a)), api.ErrIo)
	is(t, "a broken store, and nothing at all", s.Commit(api.Batch{}), api.ErrIo)
}

// valueOf is a batch of one Set whose bytes are so many.
func valueOf(name string, bytes int) api.Batch {
	return sets(fresh(name, text(bytes-len(modelBytes(sets(fresh(name, "")))))))
}

// P10.2: a transaction that has just room, and one that has not: a snapshot, which has just room, and one that has not.
func TestRoom(t *testing.T) {
	for _, c := range []struct {
		bytes, transactions int
		turn                uint32
		err                 api.Errno
	}{{44, 1, 0, api.OK}, {45, 1, 0, api.OK}, {140, 1, 0, api.OK}, {141, 0, 1, api.OK}, {188, 0, 1, api.OK}, {189, 0, 0, api.ErrFull}, {4000, 0, 0, api.ErrFull}} {
		s := formatted(t, 4)
		b := valueOf("k", c.bytes)
		is(t, "Commit", s.Commit(b), c.err)
		m, err := modelStore(4).commit(b)
		is(t, "the model", err, c.err)
		lasts(t, fmt.Sprint(c.bytes, " bytes"), s, m)
		if s.Wal().Len() != c.transactions || s.Wal().Turn() != c.turn || s.Broken() {
			t.Errorf("%d bytes: %d transactions, turn %d", c.bytes, s.Wal().Len(), s.Wal().Turn())
		}
	}
}

// P10.2: what is put into a new snapshot is all of the store, in order; then there is room for transactions again, as long as the whole has room.
func TestNewSnapshots(t *testing.T) {
	s, m := formatted(t, 6), modelStore(6)
	m = done(t, s, m, puts(blob(text(60))), sets(fresh("z", "1"), fresh("b", "2")), puts(tree(leaf("a", blob(text(60))))), sets(gone("b", "2"), fresh("a", "3")), puts(blob("b"), blob("a")))
	lasts(t, "a new snapshot", s, m)
	if m.turn == 0 || len(m.values) != 2 {
		t.Error("there was no new snapshot")
	}
	is(t, "no room", s.Commit(puts(blob(text(256)))), api.ErrFull)
	lasts(t, "what had no room", s, m)
	for i := range 12 {
		m = done(t, s, m, sets(fresh("y", text(i))), sets(gone("y", text(i))))
		lasts(t, "names that come and go", s, m)
	}
	if m.turn < 5 {
		t.Errorf("turn %d", m.turn)
	}
}

// filling are Sets of values whose batch has so many bytes; their names begin with this letter.
func filling(letter string, bytes int) []api.Set {
	var list []api.Set
	for i := 0; bytes > 3; i++ {
		n := min(bytes-3, 4000)
		if rest := bytes - 3 - n; rest > 0 && rest < 20 {
			n -= 20
		}
		list = append(list, valueOf(fmt.Sprint(letter, 100+i), n+3).Sets...)
		bytes -= n
	}
	return list
}

// P10.2: a transaction of as many bytes as one may have, and of one more, which goes as a snapshot, where that is shorter.
func TestLongestTransactions(t *testing.T) {
	s := formatted(t, 1000)
	m := done(t, s, modelStore(1000), sets(filling("a", 40000)...))
	if s.Wal().Len() != 1 || s.Wal().Turn() != 0 || len(m.transactions[0]) != 40000 {
		t.Error("40000 bytes are no transaction")
	}
	lasts(t, "40000 bytes", s, m)
	s = formatted(t, 1000)
	is(t, "40001 bytes", s.Commit(sets(filling("a", 40001)...)), api.ErrFull)
	lasts(t, "40001 bytes", s, modelStore(1000))
	if s.Broken() {
		t.Error("what has no room broke the store")
	}
	// With their Olds these have more bytes than a transaction, without them a snapshot has them.
	for over := range 2 {
		s = formatted(t, 1000)
		m = done(t, s, modelStore(1000), sets(filling("a", 7900)...))
		both := []api.Set{}
		for _, x := range filling("a", 7900) {
			both = append(both, changed(x.Name, string(x.New), text(1)))
		}
		rest := 40000 + over - len(modelBytes(sets(both...)))
		b := sets(append(both, filling("b", rest+3)...)...)
		if n := len(modelBytes(b)); n != 40000+over {
			t.Fatalf("%d bytes", n)
		}
		m = done(t, s, m, b)
		if s.Wal().Len() != 2*(1-over) || int(s.Wal().Turn()) != over {
			t.Errorf("%d bytes: %d transactions, turn %d", 40000+over, s.Wal().Len(), s.Wal().Turn())
		}
		lasts(t, "Olds", s, m)
	}
}

// P10.2, P10.3: a snapshot of as many bytes as one may have, and of one more: ErrFull, and nothing goes.
func TestLongestSnapshots(t *testing.T) {
	start := formatted(t, 1000)
	objects := many(5)
	had := done(t, start, modelStore(1000), sets(filling("a", 30000)...), api.Batch{Objects: objects, Sets: filling("b", 9903-5*7)})
	if n := len(modelBytes(had.whole())); n != 39900 {
		t.Fatalf("%d bytes", n)
	}
	for over := range 2 {
		// As a transaction these have no room, since the Olds go with them.
		var swap []api.Set
		for _, x := range filling("a", 30000)[:3] {
			swap = append(swap, changed(x.Name, string(x.New), "n"+text(len(x.New)-1)))
		}
		swap[0].New = append(swap[0].New, text(100+over)...)
		s := opened(t, start.Wal().Disk().Copy())
		want, err := had.commit(sets(swap...))
		is(t, "Commit", s.Commit(sets(swap...)), err)
		lasts(t, "Commit", s, want)
		if s.Broken() || int(s.Wal().Turn()) != 1-over || over == 0 && len(s.Wal().Snapshot()) != 40000 {
			t.Errorf("over %d: turn %d, a snapshot of %d bytes", over, s.Wal().Turn(), len(s.Wal().Snapshot()))
		}
		s = opened(t, start.Wal().Disk().Copy())
		m := done(t, s, had, valueOf("d", 103+over))
		for n := 5; n > 3; n-- {
			next, gone, err := m.sweep(ids(objects[:n]...))
			swept(t, "Sweep", s, ids(objects[:n]...), gone, err)
			lasts(t, "Sweep", s, next)
			if int(next.turn) != 6-n-over {
				t.Errorf("over %d, %d objects: turn %d", over, n, next.turn)
			}
			m = next
		}
	}
}

// P10.2, P10.3: a store may have more objects than a batch; a snapshot may not.
func TestTooManyObjects(t *testing.T) {
	all := many(4098)
	s := formatted(t, 700)
	ok(t, s.Commit(puts(all[:4096]...)), s.Commit(sets(fresh("k", text(3000)))))
	swap := sets(changed("k", text(3000), "n"+text(2999)))
	m := model{objects: all[:4096], values: map[string]string{"k": text(3000)}}

	u := opened(t, s.Wal().Disk().Copy())
	swept(t, "4096 objects", u, ids(all[:4096]...), 0, api.OK)
	lastsInShort(t, "4096 objects", u, m)
	if u.Wal().Turn() != 1 {
		t.Error("4096 objects are no snapshot")
	}

	u = opened(t, s.Wal().Disk().Copy())
	ok(t, u.Commit(swap))
	lastsInShort(t, "4096 objects", u, m.with(swap))
	if u.Wal().Turn() != 1 {
		t.Error("4096 objects are no snapshot")
	}

	ok(t, s.Commit(puts(all[4096:]...)))
	m.objects = all
	lastsInShort(t, "4098 objects", s, m)
	if s.Wal().Turn() != 0 || s.Wal().Len() != 3 {
		t.Error("there was a new snapshot")
	}
	is(t, "no room, and 4098 objects", s.Commit(swap), api.ErrFull)
	swept(t, "4098 objects", s, ids(all...), 0, api.ErrFull)
	swept(t, "4097 objects", s, ids(all[1:]...), 0, api.ErrFull)
	lastsInShort(t, "4098 objects", s, m)
	ok(t, s.Commit(puts(all[9])))
	swept(t, "4096 objects", s, ids(all[2:]...), 2, api.OK)
	m.objects = all[2:]
	lastsInShort(t, "4096 objects", s, m)
	ok(t, s.Commit(swap))
	lastsInShort(t, "4096 objects", s, m.with(swap))
}

// sealed is the sector with these bytes behind its seal, and noughts.
func sealed(rows ...[]byte) api.Block {
	var others [60]byte
	copy(others[:], slices.Concat(rows...))
	id := sha.Sum(others[:])
	return api.Block(append(id[:4:4], others[:]...))
}

// inTheLastTurn is a disk with a log in the last turn there is, in areas of 4 sectors, with a snapshot of a few bytes.
func inTheLastTurn(t *testing.T, snapshot []byte) *disk.Disk {
	t.Helper()
	d := empty(t, 10)
	turn := octet.Put32(nil, math.MaxUint32)
	head := sealed([]byte("riverlog"), turn, octet.Put32(nil, 4))
	piece := sealed(turn, octet.Put32(nil, 0), octet.Put16(nil, 0), octet.Put16(nil, 1), octet.Put32(nil, uint32(len(snapshot))), snapshot)
	ok(t, d.Write(1, head), d.Write(6, piece), d.Sync())
	return d
}

// P10.2, P10.3: in the last turn there is there are transactions, but no new snapshot.
func TestTheLastTurn(t *testing.T) {
	a, b := blob("a"), blob("b")
	s := opened(t, inTheLastTurn(t, modelBytes(puts(a, b))))
	m := modelStore(4).with(puts(a, b))
	m.turn, m.snapshot = math.MaxUint32, modelBytes(puts(a, b))
	shows(t, "the last turn", s, m)
	swept(t, "the last turn", s, ids(a), 0, api.ErrFull)
	is(t, "no room", s.Commit(valueOf("k", 141)), api.ErrFull)
	lasts(t, "no new snapshot", s, m)
	m = done(t, s, m, valueOf("k", 140))
	lasts(t, "a transaction", s, m)
	swept(t, "nowhere", s, ids(blob("c")), 0, api.ErrNone)
	is(t, "no room", s.Commit(puts(blob("c"))), api.ErrFull)
	ok(t, s.Commit(puts(a)))
	lasts(t, "no room", s, m)
	if s.Broken() {
		t.Error("what has no room broke the store")
	}
}
