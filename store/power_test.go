package store_test

import (
	"fmt"
	"iter"
	"testing"

	"confluence/api"
	"confluence/disk"
	"confluence/store"
)

// call is a Commit or a Sweep, and what it makes of a model.
type call struct {
	what string
	do   func(s *store.Store) api.Errno
	next func(m model) (model, api.Errno)
}

// commits is a call that commits.
func commits(what string, b api.Batch) call {
	return call{what,
		func(s *store.Store) api.Errno { return s.Commit(b) },
		func(m model) (model, api.Errno) { return m.commit(b) },
	}
}

// sweeps is a call that sweeps.
func sweeps(what string, roots ...api.Object) call {
	return call{what,
		func(s *store.Store) api.Errno {
			_, err := s.Sweep(ids(roots...))
			return err
		},
		func(m model) (model, api.Errno) {
			next, _, err := m.sweep(ids(roots...))
			return next, err
		},
	}
}

// calls are some that fit the stores of powerStarts: a transaction of one sector, one of a few, such that have no room and are a new snapshot, and Sweeps.
func calls() []call {
	b := blob("b")
	return []call{
		commits("an object", puts(b)),
		commits("objects, and a value", api.Batch{Objects: []api.Object{b, tree(leaf("a", blob("a")), leaf("b", b))}, Sets: []api.Set{changed("k", "1", "2")}}),
		commits("a name goes, another one comes", sets(gone("k", "1"), fresh("l", text(30)))),
		commits("a new snapshot", sets(fresh("l", text(260)))),
		commits("a new snapshot with objects", puts(b, tree(leaf("b", b), leaf("c", b)), blob(text(165)))),
		sweeps("all goes"),
		sweeps("a blob stays", blob("a")),
		sweeps("all stays", tree(leaf("a", blob("a")))),
	}
}

// powerArea is how many sectors the areas of powerStarts have.
const powerArea = 7

// powerStarts are disks with a store of a blob, a tree and a value, and what it is: in the first turn, and in later ones, so that the other area has what was there.
func powerStarts(t *testing.T) iter.Seq2[*disk.Disk, model] {
	return func(yield func(*disk.Disk, model) bool) {
		a := blob("a")
		for sweep := range 3 {
			s, m := formatted(t, powerArea), modelStore(powerArea)
			m = done(t, s, m, api.Batch{Objects: []api.Object{a, tree(leaf("a", a))}, Sets: []api.Set{fresh("k", "1")}})
			for range sweep {
				roots := ids(tree(leaf("a", a)))
				swept(t, "a start", s, roots, 0, api.OK)
				m, _, _ = m.sweep(roots)
			}
			lasts(t, "a start", s, m)
			if !yield(s.Wal().Disk(), m) {
				return
			}
		}
	}
}

// printed is all that a store has, and its log, as a text.
func printed(s *store.Store) string {
	var b api.Batch
	for _, h := range s.Heap().List {
		b.Objects = append(b.Objects, h.Object)
	}
	for _, name := range s.Names() {
		v, _ := s.Value(name)
		b.Sets = append(b.Sets, fresh(name, string(v)))
	}
	var list [][]byte
	for _, row := range s.Wal().All() {
		list = append(list, row)
	}
	return fmt.Sprintf("%x turn %d: %x %x", modelBytes(b), s.Wal().Turn(), s.Wal().Snapshot(), list)
}

// printed is all that a model has, and its log, as a text.
func (m model) printed() string {
	return fmt.Sprintf("%x turn %d: %x %x", modelBytes(m.whole()), m.turn, m.snapshot, m.transactions)
}

// setsOf tells each set of so many writes.
func setsOf(n int) iter.Seq[[]bool] {
	return func(yield func([]bool) bool) {
		for set := range 1 << n {
			var keep []bool
			for i := range n {
				keep = append(keep, set>>i%2 == 1)
			}
			if !yield(keep) {
				return
			}
		}
	}
}

// afterwards tells each disk that may be there when the power is back; of a disk that has power, that one too.
func afterwards(t *testing.T, d *disk.Disk) iter.Seq[*disk.Disk] {
	return func(yield func(*disk.Disk) bool) {
		if !d.Dead() {
			c := d.Copy()
			ok(t, c.Fail(-1), c.Arm(-1))
			if !yield(c) {
				return
			}
		}
		for keep := range setsOf(len(d.Pending())) {
			c := d.Copy()
			ok(t, c.Crash(keep))
			if !yield(c) {
				return
			}
		}
	}
}

// breaks are the ways to let the k-th operation go wrong, and what that tells.
func breaks() []struct {
	set func(d *disk.Disk, k int) api.Errno
	err api.Errno
} {
	return []struct {
		set func(d *disk.Disk, k int) api.Errno
		err api.Errno
	}{{(*disk.Disk).Arm, api.ErrDead}, {(*disk.Disk).Fail, api.ErrIo}}
}

// P10.2, P10.3, P10.6: wherever the power goes, or the disk fails: the error of the log, the store has what it had, and is broken; what is opened, whatever lives on, is what was, or what was to be.
func TestWhateverGoesWrongWithinACall(t *testing.T) {
	for start, old := range powerStarts(t) {
		for i, c := range calls() {
			next, err := c.next(old)
			is(t, c.what, err, api.OK)
			if renews := i > 2; renews != (next.turn > old.turn) {
				t.Fatalf("%s: from turn %d to %d", c.what, old.turn, next.turn)
			}
			for _, way := range breaks() {
				for k := 0; ; k++ {
					d := start.Copy()
					s := opened(t, d)
					ok(t, way.set(d, k))
					err := c.do(s)
					if err == api.OK {
						stays(t, c.what, s, next)
						break
					}
					is(t, c.what, err, way.err)
					isBroken(t, c.what, s, old)
					news := 0
					for after := range afterwards(t, d) {
						switch got := printed(opened(t, after)); got {
						case old.printed():
						case next.printed():
							news++
							goesOn(t, c.what, after, next)
						default:
							t.Errorf("%s: %s, not %s, and not %s", c.what, got, old.printed(), next.printed())
						}
					}
					if k == 0 && news > 0 {
						t.Errorf("%s: nothing was done, and it is there", c.what)
					}
					if t.Failed() {
						t.Fatalf("%s, behind %d operations, error %d", c.what, k, err)
					}
				}
			}
		}
	}
}

// isBroken fails the test if a store is not broken, or has something else than it had, or does something with its disk still.
func isBroken(t *testing.T, what string, s *store.Store, old model) {
	t.Helper()
	was := s.Wal().Disk().Ops()
	is(t, what+", Commit", s.Commit(puts(blob("z"))), api.ErrIo)
	is(t, what+", Commit of what may not be", s.Commit(puts(api.Object{})), api.ErrIo)
	swept(t, what, s, nil, 0, api.ErrIo)
	swept(t, what, s, ids(blob("nowhere")), 0, api.ErrIo)
	if !s.Broken() || s.Wal().Disk().Ops() != was {
		t.Errorf("%s: it is not broken", what)
	}
	if got := printed(s); got != old.printed() {
		t.Errorf("%s: it has %s, not %s", what, got, old.printed())
	}
}

// stays fails the test if a store is broken, or not what a model says, or is not that any more when the power goes.
func stays(t *testing.T, what string, s *store.Store, m model) {
	t.Helper()
	shows(t, what, s, m)
	if s.Broken() {
		t.Errorf("%s: it is broken", what)
	}
	for after := range afterwards(t, s.Wal().Disk()) {
		shows(t, what, opened(t, after), m)
	}
}

// goesOn fails the test if what is opened does not take what comes then.
func goesOn(t *testing.T, what string, d *disk.Disk, m model) {
	t.Helper()
	s := opened(t, d)
	for _, c := range []call{commits("", puts(blob("z"))), commits("", sets(fresh("y", "1"))), sweeps(""), commits("", puts(blob("y")))} {
		next, err := c.next(m)
		is(t, what, c.do(s), err)
		stays(t, what, s, next)
		m = next
	}
}

// P10.1, P10.6: while a store is opened, too: the error of the log, and then what would have been opened.
func TestWhateverGoesWrongWithinOpen(t *testing.T) {
	for start, old := range powerStarts(t) {
		for i, c := range calls() {
			next, _ := c.next(old)
			for k := i % 2; k < 6; k += 2 {
				torn := start.Copy()
				s := opened(t, torn)
				ok(t, torn.Arm(k))
				c.do(s)
				if !torn.Dead() {
					continue
				}
				for keep := range setsOf(len(torn.Pending())) {
					d := torn.Copy()
					ok(t, d.Crash(keep))
					want := printed(opened(t, d.Copy()))
					if want != old.printed() && want != next.printed() {
						t.Errorf("%s: %s", c.what, want)
					}
					opensAtLast(t, d, want)
				}
			}
			if t.Failed() {
				t.Fatal(c.what)
			}
		}
	}
}

// opensAtLast lets each operation of Open go wrong.
func opensAtLast(t *testing.T, torn *disk.Disk, want string) {
	t.Helper()
	for _, way := range breaks() {
		for k := 0; ; k++ {
			d := torn.Copy()
			ok(t, way.set(d, k))
			s, err := store.Open(d)
			if err == api.OK {
				if printed(s) != want {
					t.Errorf("Open: %s, not %s", printed(s), want)
				}
				break
			}
			if s != nil || err != way.err {
				t.Errorf("Open: error %d, or a store", err)
			}
			for after := range afterwards(t, d) {
				if got := printed(opened(t, after)); got != want {
					t.Errorf("Open, behind one that went wrong: %s, not %s", got, want)
				}
			}
		}
	}
}

// P10.1, P10.6: within a Format: on a new disk no log, or a store with nothing; where a store was, no log, or a store; and then it is formatted anew.
func TestWhateverGoesWrongWithinFormat(t *testing.T) {
	nothing := modelStore(4)
	used := formatted(t, 4)
	a := blob("a")
	ok(t, used.Commit(puts(a)), used.Commit(sets(fresh("k", text(100)))), used.Commit(sets(fresh("l", text(20)))), used.Commit(puts(blob("b"))))
	for _, start := range []*disk.Disk{empty(t, 10), used.Wal().Disk()} {
		fresh := start.Ops() == 0
		for _, way := range breaks() {
			for k := 0; ; k++ {
				d := start.Copy()
				ok(t, way.set(d, k))
				s, err := store.Format(d, 4)
				if err == api.OK {
					stays(t, "Format", s, nothing)
					break
				}
				if s != nil || err != way.err {
					t.Errorf("Format: error %d, or a store", err)
				}
				for after := range afterwards(t, d) {
					s, err := store.Open(after)
					if (s != nil) != (err == api.OK) || err != api.OK && err != api.ErrWal {
						t.Errorf("Open: error %d", err)
					}
					if fresh && s != nil {
						shows(t, "Open", s, nothing)
					}
				}
				ok(t, d.Crash(nil))
				s, err = store.Format(d, 4)
				ok(t, err)
				stays(t, "Format, again", s, nothing)
				if t.Failed() {
					t.Fatalf("behind %d operations", k)
				}
			}
		}
	}
}

// P10.6: long scripts, over which the power goes, and the disk fails, now and then.
func TestLongScriptsWithoutPower(t *testing.T) {
	whole := family()
	kept, lost := 0, 0
	for seed := range 150 {
		c := chance(1000 + seed)
		area := 5 + 4*(seed%5)
		s, m := formatted(t, area), modelStore(area)
		d := s.Wal().Disk()
		for step := range 40 {
			ok(t, breaks()[c.below(2)].set(d, c.below(3*area)-area))
			next, err := m, api.OK
			got := api.OK
			if c.below(5) == 0 {
				roots := among(&c, c.below(2), ids(append(m.objects, whole[0])...))
				next, _, err = m.sweep(roots)
				_, got = s.Sweep(roots)
			} else {
				b := anyBatch(&c, m, whole)
				next, err = m.commit(b)
				got = s.Commit(b)
			}
			if got == err {
				m = next
			} else if err != api.OK || got != api.ErrIo && got != api.ErrDead {
				t.Errorf("error %d, not %d", got, err)
			}
			if printed(s) != m.printed() {
				t.Errorf("%s, not %s", printed(s), m.printed())
			}
			if s.Broken() || d.Dead() || c.below(6) == 0 {
				old := m.printed()
				s, m = recovered(t, &c, d, m, next)
				if m.printed() != old {
					kept++
				} else if got != api.OK {
					lost++
				}
			}
			if t.Failed() {
				t.Fatalf("seed %d, step %d", seed, step)
			}
		}
	}
	if kept < 50 || lost < 50 {
		t.Errorf("of what was under way %d were kept, %d lost", kept, lost)
	}
}

// recovered is a store that is opened at last, and its model: the old one, or the next one.
func recovered(t *testing.T, c *chance, d *disk.Disk, old, next model) (*store.Store, model) {
	t.Helper()
	for range 1000 {
		if d.Dead() || c.below(3) > 0 {
			var keep []bool
			all := c.below(2) == 0
			for range d.Pending() {
				keep = append(keep, all || c.below(2) == 0)
			}
			ok(t, d.Crash(keep))
		}
		ok(t, breaks()[c.below(2)].set(d, c.below(60)-1))
		s, err := store.Open(d)
		if err != api.OK {
			continue
		}
		switch printed(s) {
		case old.printed():
			return s, old
		case next.printed():
			return s, next
		}
		t.Fatalf("%s, not %s, and not %s", printed(s), old.printed(), next.printed())
	}
	t.Fatal("no store is opened any more")
	return nil, model{}
}
