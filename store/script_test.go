package store_test

import (
	"slices"
	"testing"

	"confluence/api"
	"confluence/object"
	"confluence/store"
)

// family are objects of which each links to nothing but those ahead of it: of all Kinds, of a few bytes and of many, of which some lead to what no commit should lead to, since a store does not ask for Kinds.
func family() []api.Object {
	a, b, long := blob("a"), blob(""), blob(text(150))
	none, one, both := tree(), tree(leaf("a", a)), tree(leaf("a", a), leaf("b", b), leaf("c", long))
	root := commit(api.ComRoot, one)
	plain := commit(api.ComPlain, both, root)
	other := commit(api.ComPlain, none, root)
	merge := commit(api.ComMerge, both, plain, other)
	merge.Base = api.Id{1, 2, 3}
	odd := tree(leaf("a", merge), leaf("b", none), leaf("c", a))
	return []api.Object{a, b, long, none, one, both, root, plain, other, merge, odd, commit(api.ComPlain, a, odd)}
}

// smallSets are Sets of two names, and some that may not be.
func smallSets() []api.Set {
	return []api.Set{
		fresh("k", "1"), changed("k", "1", "2"), gone("k", "1"), nothing("k"), fresh("k", ""), gone("k", ""), changed("k", "", "1"),
		fresh("j", "1"), gone("j", "1"), {Name: "", Is: true}, {Name: "j", Old: []byte("1"), Is: true},
	}
}

// starts are stores in areas of so many sectors, and what they have: with nothing, with objects, with values, with a snapshot, with transactions.
func starts(t *testing.T, area int) ([]*store.Store, []model) {
	t.Helper()
	a, one := blob("a"), tree(leaf("a", blob("a")))
	scripts := [][]api.Batch{
		nil,
		{{Objects: []api.Object{a}, Sets: []api.Set{fresh("k", "1")}}},
		{{Objects: []api.Object{a, one}}, {Sets: []api.Set{fresh("k", "")}}},
		{{Sets: []api.Set{fresh("j", "1"), fresh("k", "1")}}, {Sets: []api.Set{gone("k", "1")}, Objects: []api.Object{a}}},
	}
	var stores []*store.Store
	var models []model
	for _, script := range scripts {
		for sweep := range 2 {
			s, m := formatted(t, area), modelStore(area)
			for _, b := range script {
				ok(t, s.Commit(b))
				m, _ = m.commit(b)
			}
			if sweep == 1 {
				_, err := s.Sweep(ids(m.objects...))
				ok(t, err)
				m, _, _ = m.sweep(ids(m.objects...))
			}
			lasts(t, "a start", s, m)
			stores, models = append(stores, s), append(models, m)
		}
	}
	return stores, models
}

// P10.2: all small batches, on small stores of all kinds.
func TestAllSmallBatches(t *testing.T) {
	a := blob("a")
	objects := sequences([]api.Object{a, tree(leaf("a", a)), commit(api.ComRoot, tree(leaf("a", a))), {}}, 3)
	sets := sequences(smallSets(), 2)
	stores, models := starts(t, 6)
	for i, start := range stores {
		for k, list := range objects {
			for _, x := range sets {
				// Of Sets two go with objects of each number, not with each row of objects.
				if len(x) == 2 && k%7 != 0 {
					continue
				}
				b := api.Batch{Objects: list, Sets: x}
				s := opened(t, start.Wal().Disk().Copy())
				want, err := models[i].commit(b)
				is(t, "Commit", s.Commit(b), err)
				shows(t, "Commit", s, want)
				if k%5 == 0 {
					lasts(t, "Commit", s, want)
				}
				if t.Failed() {
					t.Fatalf("start %d: %v", i, b)
				}
			}
		}
	}
}

// P10.3: all small lists of roots, on stores that have all of a family, and some of it.
func TestAllSmallSweeps(t *testing.T) {
	whole := family()
	for _, n := range []int{0, 1, 5, 9, len(whole)} {
		s, m := formatted(t, 40), modelStore(40)
		b := api.Batch{Objects: whole[:n], Sets: []api.Set{fresh("k", "1")}}
		ok(t, s.Commit(b))
		m, _ = m.commit(b)
		for _, roots := range sequences(ids(whole...), 2) {
			swept := opened(t, s.Wal().Disk().Copy())
			want, gone, err := m.sweep(roots)
			got, e := swept.Sweep(roots)
			is(t, "Sweep", e, err)
			if got != gone {
				t.Errorf("%d have gone, not %d", got, gone)
			}
			lasts(t, "Sweep", swept, want)
			if t.Failed() {
				t.Fatalf("%d objects, roots %v", n, roots)
			}
		}
	}
}

// anySets are Sets of names that are different from one another; most of them fit.
func anySets(c *chance, m model) []api.Set {
	var list []api.Set
	for _, name := range []string{"k", "j", "kk", text(32)} {
		if c.below(3) > 0 {
			continue
		}
		x := api.Set{Name: name, Is: c.below(4) > 0}
		if old, is := m.values[name]; is {
			x.Was, x.Old = true, []byte(old)
		}
		if x.Is {
			x.New = []byte(text(c.below(40)))
		}
		if c.below(12) == 0 {
			x.Was, x.Old = true, []byte(text(c.below(40)))
		}
		list = append(list, x)
	}
	slices.SortFunc(list, func(api.Set, api.Set) int { return c.below(3) - 1 })
	return list
}

// anyBatch is a batch of chance: in order most times, so that it fits.
func anyBatch(c *chance, m model, whole []api.Object) api.Batch {
	b := api.Batch{Objects: among(c, c.below(6), whole), Sets: anySets(c, m)}
	if c.below(4) > 0 {
		n := 1 + c.below(len(whole))
		b.Objects = append(slices.Clone(whole[c.below(3)*c.below(n)/2:n]), b.Objects[:len(b.Objects)/3]...)
	}
	if c.below(20) == 0 {
		b.Objects = append(b.Objects, api.Object{Kind: api.ObjBlob, Note: "n"})
	}
	return b
}

// ahead fails the test if an object of a store links to what does not stand ahead of it, or an Id stands there twice.
func ahead(t *testing.T, s *store.Store) {
	t.Helper()
	var there []api.Id
	for _, h := range s.Heap().List {
		for _, id := range object.Links(h.Object) {
			if !slices.Contains(there, id) {
				t.Errorf("%v links to what is not ahead of it", h)
			}
		}
		if slices.Contains(there, h.Id) {
			t.Errorf("%v stands there twice", h)
		}
		there = append(there, h.Id)
	}
}

// P10.1 to P10.4, P10.6: long scripts, in areas in which there is room for all and in such in which there is not.
func TestLongScripts(t *testing.T) {
	whole := family()
	met, turns := map[api.Errno]int{}, 0
	for seed := range 200 {
		c := chance(seed)
		area := 4 + 4*(seed%6)
		s, m := formatted(t, area), modelStore(area)
		for step := range 50 {
			if c.below(8) == 0 {
				s = opened(t, s.Wal().Disk())
			}
			if c.below(6) == 0 {
				from := whole
				if c.below(8) > 0 && len(m.objects) > 0 {
					from = m.objects
				}
				roots := among(&c, c.below(3), ids(from...))
				want, gone, err := m.sweep(roots)
				got, e := s.Sweep(roots)
				is(t, "Sweep", e, err)
				if got != gone {
					t.Errorf("%d have gone, not %d", got, gone)
				}
				met[err]++
				m = want
			} else {
				b := anyBatch(&c, m, whole)
				want, err := m.commit(b)
				is(t, "Commit", s.Commit(b), err)
				met[err]++
				turns += int(want.turn - m.turn)
				m = want
			}
			lasts(t, "a script", s, m)
			ahead(t, s)
			if t.Failed() {
				t.Fatalf("seed %d, step %d", seed, step)
			}
		}
	}
	for _, err := range []api.Errno{api.OK, api.ErrArg, api.ErrNone, api.ErrStale, api.ErrFull} {
		if met[err] < 100 || turns < 100 {
			t.Errorf("error %d was met %d times, a new snapshot by a Commit %d times", err, met[err], turns)
		}
	}
}
