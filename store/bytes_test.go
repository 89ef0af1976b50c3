package store_test

import (
	"bytes"
	"math"
	"slices"
	"testing"

	"confluence/api"
	"confluence/object"
	"confluence/store"
)

// sameSet tells whether two Sets are the same.
func sameSet(a, b api.Set) bool {
	return a.Name == b.Name && a.Was == b.Was && a.Is == b.Is && bytes.Equal(a.Old, b.Old) && bytes.Equal(a.New, b.New)
}

// sameBatch tells whether two batches are the same.
func sameBatch(a, b api.Batch) bool {
	return slices.EqualFunc(a.Objects, b.Objects, object.Same) && slices.EqualFunc(a.Sets, b.Sets, sameSet)
}

// decodes fails the test if Decode answers something else than the model.
func decodes(t *testing.T, row []byte) {
	t.Helper()
	want, err := modelDecode(row)
	got, e := store.Decode(row)
	if e != err || !sameBatch(got, want) {
		t.Fatalf("Decode(% x): %v, error %d, not %v, %d", row, got, e, want, err)
	}
	if e == api.OK {
		again, err := store.Encode(got)
		if err != api.OK || !bytes.Equal(again, row) {
			t.Fatalf("Encode(%v): % x, error %d, not % x", got, again, err, row)
		}
	}
}

// someBatches are batches that may be, of few bytes.
func someBatches() []api.Batch {
	list := []api.Batch{
		{}, puts(blob("")), puts(blob("a"), tree(leaf("a", blob("a")))), puts(tree(leaf("nowhere", blob("n")))), puts(blob("a"), blob("a")),
		sets(fresh("k", "1")), sets(changed("k", "1", "23")), sets(gone("k", "45")), sets(nothing("k")), sets(changed("k", "", "")),
		sets(fresh("z", "1"), gone("a", "2"), nothing("m"), changed("b", "3", "4")), sets(fresh(text(32), text(300)), changed("\x00\xff", text(256), "")),
		{Objects: family(), Sets: []api.Set{fresh("k", "1"), gone("j", "2")}},
	}
	return list
}

// P10.5: bytes, written out.
func TestBytesWrittenOut(t *testing.T) {
	id := modelId(blob("a"))
	for _, c := range []struct {
		batch api.Batch
		row   []byte
	}{
		{api.Batch{}, []byte{0, 0, 0}},
		{puts(blob("hi")), []byte{0, 1, 0, 5, 1, 0, 2, 'h', 'i', 0}},
		{puts(tree(), blob("")), []byte{0, 2, 0, 2, 2, 0, 0, 3, 1, 0, 0, 0}},
		{puts(tree(leaf("p", blob("a")))), slices.Concat([]byte{0, 1, 0, 36, 2, 1, 1, 'p'}, id[:], []byte{0})},
		{sets(fresh("k", "\x07")), []byte{0, 0, 1, 1, 'k', 0, 0, 0, 1, 0, 1, 7}},
		{sets(gone("kl", "\x07\x08")), []byte{0, 0, 1, 2, 'k', 'l', 1, 0, 2, 7, 8, 0, 0, 0}},
		{sets(changed("k", "\x07", ""), nothing("a")), []byte{0, 0, 2, 1, 'k', 1, 0, 1, 7, 1, 0, 0, 1, 'a', 0, 0, 0, 0, 0, 0}},
		{sets(fresh("k", text(300))), append([]byte{0, 0, 1, 1, 'k', 0, 0, 0, 1, 1, 44}, text(300)...)},
		{puts(blob(text(256))), slices.Concat([]byte{0, 1, 1, 3, 1, 1, 0}, []byte(text(256)), []byte{0})},
	} {
		row, err := store.Encode(c.batch)
		if !bytes.Equal(row, c.row) || err != api.OK {
			t.Errorf("Encode(%v): % x, error %d, not % x", c.batch, row, err, c.row)
		}
		b, err := store.Decode(c.row)
		if !sameBatch(b, c.batch) || err != api.OK {
			t.Errorf("Decode(% x): %v, error %d, not %v", c.row, b, err, c.batch)
		}
	}
	row, err := store.Encode(puts(many(258)...))
	if err != api.OK || len(row) != 3+258*7 || row[0] != 1 || row[1] != 2 {
		t.Errorf("258 objects: %d bytes, error %d", len(row), err)
	}
}

// P10.5, P10.6: a batch is decoded from its bytes; less of them is ErrShort, more ErrArg.
func TestDecodeOfEncode(t *testing.T) {
	list := append(someBatches(), sets(numbered(128)...), puts(many(600)...))
	for _, b := range list {
		row, err := store.Encode(b)
		ok(t, err)
		got, err := store.Decode(row)
		if !sameBatch(got, b) || err != api.OK {
			t.Errorf("Decode of %v: %v, error %d", b, got, err)
		}
		for n := range row {
			if got, err := store.Decode(row[:n]); err != api.ErrShort || !sameBatch(got, api.Batch{}) {
				t.Fatalf("%d of %d bytes: %v, error %d", n, len(row), got, err)
			}
		}
		for _, more := range [][]byte{{0}, {1}, {0, 0, 0}, row} {
			if got, err := store.Decode(slices.Concat(row, more)); err != api.ErrArg || !sameBatch(got, api.Batch{}) {
				t.Fatalf("with % x behind it: %v, error %d", more, got, err)
			}
		}
	}
	row, err := store.Encode(puts(many(4096)...))
	ok(t, err)
	got, err := store.Decode(row)
	if !sameBatch(got, puts(many(4096)...)) || err != api.OK {
		t.Errorf("4096 objects: %d, error %d", len(got.Objects), err)
	}
}

// P10.5: all rows of a few bytes of 0 and 1, and of 0, 1 and 2.
func TestSmallRows(t *testing.T) {
	for _, c := range []struct{ bytes, most int }{{2, 14}, {3, 9}} {
		for n := range c.most + 1 {
			row := make([]byte, n)
			for number := range int(math.Pow(float64(c.bytes), float64(n))) {
				for i := range row {
					row[i] = byte(number % c.bytes)
					number /= c.bytes
				}
				decodes(t, row)
			}
		}
	}
}

// P10.5: bytes of a batch, of which some are other ones, or gone, or there twice.
func TestBentRows(t *testing.T) {
	for i, b := range someBatches() {
		row := modelBytes(b)
		for at := range row {
			for _, to := range []byte{0, 1, 2, row[at] + 1, row[at] - 1, row[at] ^ 128, 255} {
				decodes(t, bent(row, at, to))
			}
			decodes(t, slices.Delete(slices.Clone(row), at, at+1))
			decodes(t, slices.Insert(slices.Clone(row), at, row[at]))
		}
		c := chance(i)
		for range 3000 {
			other := slices.Clone(row)
			for range 1 + c.below(3) {
				other[c.below(len(other))] = byte([]int{c.below(256), c.below(3)}[c.below(2)])
			}
			decodes(t, other[:len(other)-max(0, c.below(8)-5)])
		}
	}
}

// P10.5: what is short is told ahead of all that may not be; how many there are said to be counts, even where so many may not be.
func TestShortGoesFirst(t *testing.T) {
	whole := modelBytes(puts(blob("a"), blob("b")))
	for _, c := range []struct {
		what string
		row  []byte
		err  api.Errno
	}{
		{"no bytes", nil, api.ErrShort},
		{"one byte", []byte{0}, api.ErrShort},
		{"no number of Sets", []byte{0, 0}, api.ErrShort},
		{"65535 objects, and none", []byte{255, 255}, api.ErrShort},
		{"65535 objects, and one", append([]byte{255, 255}, whole[2:]...), api.ErrShort},
		{"an object that is none, and a second one that is not there", []byte{0, 2, 0, 1, 9}, api.ErrShort},
		{"an object that is none, and no number of Sets", []byte{0, 1, 0, 1, 9}, api.ErrShort},
		{"an object that is none", []byte{0, 1, 0, 1, 9, 0}, api.ErrArg},
		{"an object without bytes", []byte{0, 1, 0, 0, 0}, api.ErrArg},
		{"an object that is cut off, with all of its bytes there", []byte{0, 1, 0, 3, 1, 0, 1, 0}, api.ErrArg},
		{"an object, and a byte too many in it", []byte{0, 1, 0, 4, 1, 0, 0, 0, 0}, api.ErrArg},
		{"an object of 65535 bytes, of which some are there", append([]byte{0, 1, 255, 255}, make([]byte, 65534)...), api.ErrShort},
		{"an object of 65535 bytes", append([]byte{0, 1, 255, 255}, make([]byte, 65536)...), api.ErrArg},
		{"255 Sets, and none", []byte{0, 0, 255}, api.ErrShort},
		{"255 Sets, and 254", append([]byte{0, 0, 255}, make([]byte, 254*7)...), api.ErrShort},
		{"255 Sets", append([]byte{0, 0, 255}, make([]byte, 255*7)...), api.ErrArg},
		{"a Set without a name, cut off", []byte{0, 0, 1, 0, 0, 0, 0, 1, 0}, api.ErrShort},
		{"a Set without a name", []byte{0, 0, 1, 0, 0, 0, 0, 1, 0, 0}, api.ErrArg},
		{"a Was of 2, cut off", []byte{0, 0, 1, 1, 'k', 2, 0, 0, 1, 0}, api.ErrShort},
		{"a Was of 2", []byte{0, 0, 1, 1, 'k', 2, 0, 0, 1, 0, 0}, api.ErrArg},
		{"an Is of 255", []byte{0, 0, 1, 1, 'k', 1, 0, 0, 255, 0, 0}, api.ErrArg},
		{"an Old without a Was", []byte{0, 0, 1, 1, 'k', 0, 0, 1, 7, 1, 0, 0}, api.ErrArg},
		{"a New without an Is", []byte{0, 0, 1, 1, 'k', 1, 0, 0, 0, 0, 1, 7}, api.ErrArg},
		{"a name twice", []byte{0, 0, 2, 1, 'k', 0, 0, 0, 1, 0, 0, 1, 'k', 0, 0, 0, 1, 0, 0}, api.ErrArg},
		{"a name of 33 bytes", modelBytes(sets(fresh(text(33), ""))), api.ErrArg},
		{"a New of 4097 bytes", modelBytes(sets(fresh("k", text(4097)))), api.ErrArg},
		{"a New of 4096 bytes", modelBytes(sets(fresh("k", text(4096)))), api.OK},
		{"an Old of 4097 bytes", modelBytes(sets(gone("k", text(4097)))), api.ErrArg},
		{"129 Sets", modelBytes(sets(numbered(129)...)), api.ErrArg},
		{"128 Sets", modelBytes(sets(numbered(128)...)), api.OK},
		{"4097 objects", modelBytes(puts(many(4097)...)), api.ErrArg},
		{"4096 objects", modelBytes(puts(many(4096)...)), api.OK},
		{"4097 objects, cut off", modelBytes(puts(many(4097)...))[:20000], api.ErrShort},
	} {
		b, err := store.Decode(c.row)
		is(t, c.what, err, c.err)
		if err != api.OK && !sameBatch(b, api.Batch{}) {
			t.Errorf("%s: a batch beside an error", c.what)
		}
		_, err = modelDecode(c.row)
		is(t, c.what+", of the model", err, c.err)
	}
}
