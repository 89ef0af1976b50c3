package wal_test

import (
	"iter"
	"testing"

	"confluence/api"
	"confluence/disk"
	"confluence/wal"
)

// call is an Append or a Checkpoint, and what it makes of a state in areas of 5 sectors.
type call struct {
	name string
	do   func(w *wal.Wal) api.Errno
	new  func(old state) state
}

// calls are some that have room in half an area.
func calls() []call {
	var list []call
	for _, n := range []int{0, 50, 120} {
		b := row(n, 8)
		list = append(list,
			call{"Append", func(w *wal.Wal) api.Errno { return w.Append(b) }, func(old state) state { return old.with(b) }},
			call{"Checkpoint", func(w *wal.Wal) api.Errno { return w.Checkpoint(b) }, func(old state) state { return old.turned(5, b) }})
	}
	return list
}

// startsOf are disks with logs in areas of 5 sectors, and what they tell: with nothing in the other area, with what a past turn left there, and with what a Checkpoint left there whose head never came.
func startsOf(t *testing.T) iter.Seq2[*disk.Disk, state] {
	return func(yield func(*disk.Disk, state) bool) {
		for _, turn := range []uint64{0, 7} {
			for i, other := range [][]api.Block{nil, modelPieces(turn-1, row(1, 1), row(50, 2), row(2, 3)), modelPieces(turn+1, row(140, 4))} {
				texts := [][]byte{row(5, 5), row(6, 6)}[:1+i%2]
				d := laidOut(t, turn, 5, modelPieces(turn, texts...)...)
				lay(t, d, firstOf(turn+1, 5), other...)
				if !yield(d, state{uint32(turn), 5 - len(texts), texts[0], texts[1:]}) {
					return
				}
			}
		}
	}
}

// setsOf tells each set of so many writes.
func setsOf(n int) iter.Seq[[]bool] {
	return func(yield func([]bool) bool) {
		for set := range 1 << n {
			var keep []bool
			for i := range n {
				keep = append(keep, set>>i%2 == 1)
			}
			if !yield(keep) {
				return
			}
		}
	}
}

// afterwards tells each disk that may be there when the power is back; of a disk that has power, that one too.
func afterwards(t *testing.T, d *disk.Disk) iter.Seq[*disk.Disk] {
	return func(yield func(*disk.Disk) bool) {
		if !d.Dead() {
			c := d.Copy()
			ok(t, c.Fail(-1), c.Arm(-1))
			if !yield(c) {
				return
			}
		}
		for keep := range setsOf(len(d.Pending())) {
			c := d.Copy()
			ok(t, c.Crash(keep))
			if !yield(c) {
				return
			}
		}
	}
}

// breaks is a way to let the k-th operation go wrong.
var breaks = [2]func(d *disk.Disk, k int) api.Errno{(*disk.Disk).Arm, (*disk.Disk).Fail}

// lasts fails the test if what is opened now does not last: opened again it is the same, and nothing is written; and what comes behind it is told then.
func lasts(t *testing.T, d *disk.Disk, want state) {
	t.Helper()
	tells(t, "Open", opened(t, d), want)
	if len(d.Pending()) > 0 {
		t.Errorf("behind Open writes wait, to %d", d.Pending())
	}
	before := d.Copy()
	ok(t, doAll(before, opening(uint64(want.turn), 5, nil, false)))
	w := opened(t, d)
	sameDisk(t, "Open, again", d, before)
	tells(t, "Open, again", w, want)
	if want.left > 0 {
		ok(t, w.Append(row(3, 9)))
		want = want.with(row(3, 9))
		tells(t, "Append behind Open", opened(t, d), want)
	}
	ok(t, w.Checkpoint(row(4, 9)), w.Append(row(60, 8)))
	tells(t, "Checkpoint behind Open", opened(t, d), want.turned(5, row(4, 9)).with(row(60, 8)))
}

// P4.5: wherever the power goes, or the disk fails, within an Append or a Checkpoint, and whatever lives on: the old state, or the new one; if it was told, the new one.
func TestWhateverGoesWrongWithinACall(t *testing.T) {
	for start, old := range startsOf(t) {
		for _, c := range calls() {
			for _, set := range breaks {
				for k := 0; ; k++ {
					d := start.Copy()
					w := opened(t, d)
					ok(t, set(d, k))
					err := c.do(w)
					for after := range afterwards(t, d) {
						got := told(t, opened(t, after.Copy()))
						if !got.equal(c.new(old)) && (err == api.OK || !got.equal(old)) {
							t.Fatalf("%s, behind %d operations, error %d: %v, not %v, and not %v", c.name, k, err, got, old, c.new(old))
						}
						lasts(t, after, got)
					}
					if t.Failed() || err == api.OK {
						break
					}
				}
			}
		}
	}
}

// P4.5: while a log is opened, too: what is opened then is what would have been opened.
func TestWhateverGoesWrongWithinOpen(t *testing.T) {
	for start, old := range startsOf(t) {
		for _, c := range calls() {
			for k := range 6 {
				d := start.Copy()
				w := opened(t, d)
				ok(t, d.Arm(k))
				c.do(w)
				for torn := range afterwards(t, d) {
					want := told(t, opened(t, torn.Copy()))
					if !want.equal(old) && !want.equal(c.new(old)) {
						t.Fatalf("%s: %v", c.name, want)
					}
					opensAtLast(t, torn, want)
				}
			}
		}
	}
}

// opensAtLast lets each operation of Open go wrong.
func opensAtLast(t *testing.T, torn *disk.Disk, want state) {
	t.Helper()
	for _, set := range breaks {
		for k := 0; ; k++ {
			d := torn.Copy()
			ok(t, set(d, k))
			w, err := wal.Open(d)
			if err == api.OK {
				tells(t, "Open", w, want)
				break
			}
			if w != nil {
				t.Error("a log beside an error")
			}
			for after := range afterwards(t, d) {
				tells(t, "Open, behind one that went wrong", opened(t, after), want)
			}
		}
	}
}

// chance is a row of numbers that goes its own way for each seed.
type chance uint64

func (c *chance) below(n int) int {
	*c = *c*6364136223846793005 + 1442695040888963407
	return int(*c>>33) % n
}

// P4.5: long scripts of calls, over which the power goes, and the disk fails, now and then.
func TestLongScripts(t *testing.T) {
	for seed := range 300 {
		c := chance(seed)
		area := 4 + seed%4
		w := formatted(t, area)
		d := w.Disk()
		now := state{left: area - 1}
		for step := range 60 {
			n := []int{c.below(45), c.below(100), c.below(48*area + 10)}[c.below(3)]
			b := row(n, step)
			ok(t, breaks[c.below(2)](d, c.below(2*area+4)-1))
			do, new, room := w.Append, now.with(b), now.left
			if c.below(4) == 0 {
				do, new, room = w.Checkpoint, now.turned(area, b), area
			}
			err := do(b)
			if wal.Sectors(n) > room {
				is(t, "no room", err, api.ErrFull)
				tells(t, "no room", w, now)
			} else if err == api.OK {
				now = new
				tells(t, "a call that was done", w, now)
			} else {
				tells(t, "a call that was not done", w, now)
				is(t, "a broken log", w.Append(nil), api.ErrIo)
				w, now = recovered(t, &c, d, now, new)
			}
			if c.below(5) == 0 {
				w, now = recovered(t, &c, d, now, now)
			}
			if t.Failed() {
				t.Fatalf("seed %d, step %d", seed, step)
			}
		}
	}
}

// recovered is a log that is opened at last, and what it tells: what was told, or what was to be made of it.
func recovered(t *testing.T, c *chance, d *disk.Disk, old, new state) (*wal.Wal, state) {
	t.Helper()
	for range 1000 {
		if d.Dead() || c.below(3) > 0 {
			var keep []bool
			for range d.Pending() {
				keep = append(keep, c.below(2) == 0)
			}
			ok(t, d.Crash(keep))
		}
		ok(t, breaks[c.below(2)](d, c.below(16)-1))
		w, err := wal.Open(d)
		if err != api.OK {
			continue
		}
		got := told(t, w)
		if !got.equal(old) && !got.equal(new) {
			t.Errorf("%v, not %v, and not %v", got, old, new)
		}
		return w, got
	}
	t.Fatal("no log is opened any more")
	return nil, state{}
}

// P4.5: once Open told a state, that one lasts, whatever waited when it was opened.
func TestWhatOpenToldLasts(t *testing.T) {
	for start, old := range startsOf(t) {
		for _, c := range calls() {
			for k := range 6 {
				d := start.Copy()
				w := opened(t, d)
				ok(t, d.Fail(k))
				if c.do(w) == api.OK {
					continue
				}
				got := told(t, opened(t, d))
				if !got.equal(old) && !got.equal(c.new(old)) {
					t.Errorf("%s: %v", c.name, got)
				}
				for after := range afterwards(t, d) {
					tells(t, c.name, opened(t, after), got)
				}
			}
		}
	}
}

// P4.1: what Format told lasts; behind one that went wrong the disk is formatted anew.
func TestFormatLasts(t *testing.T) {
	for k := range len(formatting(4)) + 1 {
		for _, set := range breaks {
			d := laidOut(t, 6, 4, modelPieces(6, row(5, 5), row(6, 6))...)
			ok(t, set(d, k))
			_, err := wal.Format(d, 4)
			if err == api.OK {
				for after := range afterwards(t, d) {
					tells(t, "Format", opened(t, after), state{left: 3})
				}
				continue
			}
			ok(t, d.Crash(nil))
			w, err := wal.Format(d, 4)
			ok(t, err)
			tells(t, "Format, again", w, state{left: 3})
			tells(t, "Format, again, opened", opened(t, d), state{left: 3})
		}
	}
}
