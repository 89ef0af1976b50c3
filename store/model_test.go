package store_test

import (
	"bytes"
	"maps"
	"slices"
	"testing"

	"confluence/api"
	"confluence/disk"
	"confluence/object"
	"confluence/store"
)

// The model says the chapter's words once more: on lists that are gone through from their beginning each time, and with bytes that are told by places. Of the program it asks object alone what objects are.

// two is a number in two bytes.
func two(n int) []byte {
	return []byte{byte(n / 256), byte(n % 256)}
}

// modelObject tells whether an object may be.
func modelObject(o api.Object) bool {
	_, err := object.Encode(o)
	return err == api.OK
}

// modelSet tells whether a Set may be.
func modelSet(x api.Set) bool {
	if len(x.Name) == 0 || len(x.Name) > 32 || len(x.Old) > 4096 || len(x.New) > 4096 {
		return false
	}
	return (x.Was || len(x.Old) == 0) && (x.Is || len(x.New) == 0)
}

// modelMayBe tells whether a batch may be.
func modelMayBe(b api.Batch) bool {
	for _, o := range b.Objects {
		if !modelObject(o) {
			return false
		}
	}
	for i, x := range b.Sets {
		if !modelSet(x) || slices.ContainsFunc(b.Sets[:i], func(y api.Set) bool { return y.Name == x.Name }) {
			return false
		}
	}
	return len(b.Objects) <= 4096 && len(b.Sets) <= 128
}

// modelBytes are the bytes of a batch that may be.
func modelBytes(b api.Batch) []byte {
	pieces := [][]byte{two(len(b.Objects))}
	for _, o := range b.Objects {
		row, _ := object.Encode(o)
		pieces = append(pieces, two(len(row)), row)
	}
	pieces = append(pieces, []byte{byte(len(b.Sets))})
	is := map[bool]byte{true: 1, false: 0}
	for _, x := range b.Sets {
		pieces = append(pieces, []byte{byte(len(x.Name))}, []byte(x.Name))
		pieces = append(pieces, []byte{is[x.Was]}, two(len(x.Old)), x.Old)
		pieces = append(pieces, []byte{is[x.Is]}, two(len(x.New)), x.New)
	}
	return slices.Concat(pieces...)
}

// modelDecode is the batch whose bytes b are.
func modelDecode(b []byte) (api.Batch, api.Errno) {
	at, short, wrong := 0, false, false
	take := func(n int) []byte {
		short = short || n > len(b)-at
		if short {
			return nil
		}
		at += n
		return slices.Clone(b[at-n : at])
	}
	number := func(width int) int {
		n := 0
		for _, x := range take(width) {
			n = 256*n + int(x)
		}
		return n
	}
	is := func() bool {
		n := number(1)
		wrong = wrong || n > 1
		return n == 1
	}
	var made api.Batch
	for n := number(2); n > 0 && !short; n-- {
		o, err := object.Decode(take(number(2)))
		wrong = wrong || err != api.OK
		made.Objects = append(made.Objects, o)
	}
	for n := number(1); n > 0 && !short; n-- {
		var x api.Set
		x.Name = string(take(number(1)))
		x.Was = is()
		x.Old = take(number(2))
		x.Is = is()
		x.New = take(number(2))
		made.Sets = append(made.Sets, x)
	}
	switch {
	case short:
		return api.Batch{}, api.ErrShort
	case wrong, at < len(b), !modelMayBe(made):
		return api.Batch{}, api.ErrArg
	}
	return made, api.OK
}

// model is what a store has, and its log: in areas of so many sectors, in a turn, with a snapshot and transactions.
type model struct {
	objects      []api.Object
	values       map[string]string
	area         int
	turn         uint32
	snapshot     []byte
	transactions [][]byte
}

// modelStore is a store with nothing.
func modelStore(area int) model {
	return model{values: map[string]string{}, area: area}
}

// modelId is the Id of an object.
func modelId(o api.Object) api.Id {
	id, _ := object.Id(o)
	return id
}

// has tells whether the objects have one of that Id.
func has(objects []api.Object, id api.Id) bool {
	return slices.ContainsFunc(objects, func(o api.Object) bool { return modelId(o) == id })
}

// fits tells whether a batch that may be fits.
func (m model) fits(b api.Batch) api.Errno {
	by := slices.Clone(m.objects)
	for _, o := range b.Objects {
		if has(by, modelId(o)) {
			continue
		}
		for _, id := range object.Links(o) {
			if !has(by, id) {
				return api.ErrNone
			}
		}
		by = append(by, o)
	}
	for _, x := range b.Sets {
		if v, is := m.values[x.Name]; is != x.Was || v != string(x.Old) {
			return api.ErrStale
		}
	}
	if len(m.with(b).values) > 128 {
		return api.ErrFull
	}
	return api.OK
}

// unknown are the objects of a batch that are not known.
func (m model) unknown(b api.Batch) []api.Object {
	var list []api.Object
	for _, o := range b.Objects {
		if !has(m.objects, modelId(o)) && !has(list, modelId(o)) {
			list = append(list, o)
		}
	}
	return list
}

// with is what a store has that is brought a batch, with a log as it was.
func (m model) with(b api.Batch) model {
	m.objects = slices.Concat(m.objects, m.unknown(b))
	m.values = maps.Clone(m.values)
	for _, x := range b.Sets {
		delete(m.values, x.Name)
		if x.Is {
			m.values[x.Name] = string(x.New)
		}
	}
	return m
}

// whole is the batch that brings all to a store with nothing.
func (m model) whole() api.Batch {
	b := api.Batch{Objects: m.objects}
	for _, name := range slices.Sorted(maps.Keys(m.values)) {
		b.Sets = append(b.Sets, api.Set{Name: name, Is: true, New: []byte(m.values[name])})
	}
	return b
}

// sectors is how many sectors bytes take as a piece of a log.
func sectors(row []byte) int {
	return (len(row) + 51) / 48
}

// left is how many sectors are left in the area.
func (m model) left() int {
	n := m.area - sectors(m.snapshot)
	for _, row := range m.transactions {
		n -= sectors(row)
	}
	return n
}

// renewed is the model with all that it has in a new snapshot.
func (m model) renewed() (model, api.Errno) {
	row := modelBytes(m.whole())
	if len(m.objects) > 4096 || len(row) > 40000 || sectors(row) > m.area {
		return m, api.ErrFull
	}
	m.turn++
	m.snapshot, m.transactions = row, nil
	return m, api.OK
}

// commit is what a Commit makes of the model, and its error.
func (m model) commit(b api.Batch) (model, api.Errno) {
	if !modelMayBe(b) {
		return m, api.ErrArg
	}
	if err := m.fits(b); err != api.OK {
		return m, err
	}
	put := api.Batch{Objects: m.unknown(b), Sets: b.Sets}
	if len(put.Objects)+len(put.Sets) == 0 {
		return m, api.OK
	}
	next := m.with(b)
	if row := modelBytes(put); len(row) <= 40000 && sectors(row) <= m.left() {
		next.transactions = append(slices.Clone(m.transactions), row)
		return next, api.OK
	}
	return m.unless(next.renewed())
}

// sweep is what a Sweep makes of the model, how many have gone, and its error.
func (m model) sweep(roots []api.Id) (model, int, api.Errno) {
	for _, id := range roots {
		if !has(m.objects, id) {
			return m, 0, api.ErrNone
		}
	}
	stay := slices.Clone(roots)
	for i := 0; i < len(stay); i++ {
		for _, o := range m.objects {
			if modelId(o) == stay[i] {
				for _, id := range object.Links(o) {
					if !slices.Contains(stay, id) {
						stay = append(stay, id)
					}
				}
			}
		}
	}
	next := m
	next.objects = nil
	for _, o := range m.objects {
		if slices.Contains(stay, modelId(o)) {
			next.objects = append(next.objects, o)
		}
	}
	next, err := m.unless(next.renewed())
	return next, len(m.objects) - len(next.objects), err
}

// unless is the next model, or, beside an error, this one.
func (m model) unless(next model, err api.Errno) (model, api.Errno) {
	if err != api.OK {
		return m, err
	}
	return next, api.OK
}

// names are the names that tests use of the values that a store may have.
func names(m model) []string {
	return append(slices.Sorted(maps.Keys(m.values)), "", "j", "k", "kk", "l", "nobody", string(make([]byte, 33)))
}

// shows fails the test if a store tells something else than a model has.
func shows(t *testing.T, what string, s *store.Store, m model) {
	t.Helper()
	heap := s.Heap().List
	if len(heap) != len(m.objects) {
		t.Errorf("%s: %d objects, not %d", what, len(heap), len(m.objects))
		return
	}
	for i, o := range m.objects {
		id := modelId(o)
		got, err := s.Get(id)
		if heap[i].Id != id || !object.Same(heap[i].Object, o) || err != api.OK || !object.Same(got, o) {
			t.Errorf("%s: object %d: %v, and by its Id %v, error %d, not %v", what, i, heap[i], got, err, o)
		}
	}
	if !slices.Equal(s.Names(), slices.Sorted(maps.Keys(m.values))) {
		t.Errorf("%s: the names are %q, not those of %q", what, s.Names(), m.values)
	}
	for _, name := range names(m) {
		v, is := m.values[name]
		if got, ok := s.Value(name); string(got) != v || ok != is {
			t.Errorf("%s: the value of %q is %q, %t, not %q, %t", what, name, got, ok, v, is)
		}
	}
	logs(t, what, s, m)
}

// logs fails the test if a store's log is another one.
func logs(t *testing.T, what string, s *store.Store, m model) {
	t.Helper()
	w := s.Wal()
	if w.Turn() != m.turn || !bytes.Equal(w.Snapshot(), m.snapshot) || w.Len() != len(m.transactions) || w.Left() != m.left() {
		t.Errorf("%s: the log is in turn %d, with %d transactions behind % x; not in %d, %d behind % x", what, w.Turn(), w.Len(), w.Snapshot(), m.turn, len(m.transactions), m.snapshot)
		return
	}
	for i, row := range w.All() {
		if !bytes.Equal(row, m.transactions[i-1]) {
			t.Errorf("%s: transaction %d is % x, not % x", what, i, row, m.transactions[i-1])
		}
	}
}

// opened is the store of a disk.
func opened(t *testing.T, d *disk.Disk) *store.Store {
	t.Helper()
	s, err := store.Open(d)
	if s == nil || err != api.OK {
		t.Fatalf("Open: error %d, or no store", err)
	}
	return s
}

// lasts fails the test if a store, or what is opened of its disk, tells something else than a model has.
func lasts(t *testing.T, what string, s *store.Store, m model) {
	t.Helper()
	shows(t, what, s, m)
	shows(t, what+", opened", opened(t, s.Wal().Disk().Copy()), m)
}

// chance is a row of numbers that goes its own way for each seed.
type chance uint64

func (c *chance) below(n int) int {
	*c = *c*6364136223846793005 + 1442695040888963407
	return int(*c>>33) % n
}

// among are so many of a list's items, in any order, some of them perhaps twice.
func among[R any](c *chance, n int, list []R) []R {
	var made []R
	for range n {
		made = append(made, list[c.below(len(list))])
	}
	return made
}

// sequences are all rows of at most n items of a list.
func sequences[R any](list []R, n int) [][]R {
	made := [][]R{nil}
	from := 0
	for range n {
		to := len(made)
		for _, row := range made[from:to] {
			for _, x := range list {
				made = append(made, append(slices.Clone(row), x))
			}
		}
		from = to
	}
	return made
}
