package disk_test

import (
	"math"
	"slices"
	"testing"

	"confluence/api"
	"confluence/disk"
)

// The blocks of the tests, unlike at their first byte and at their last one.
var x, y, z = block(1), block(2), block(3)

// nowhere are numbers of sectors that a disk of 4 has not.
var nowhere = []int{-1, 4, 5, 2048, math.MinInt, math.MaxInt}

// block is a block that is n's alone, all of it other than noughts.
func block(n int) api.Block {
	var b api.Block
	for i := range b {
		b[i] = byte(1 + (n*7+i)%255)
	}
	b[0], b[63] = byte(n), byte(n)
	return b
}

// fresh is a disk of so many sectors.
func fresh(t *testing.T, sectors int) *disk.Disk {
	t.Helper()
	d, err := disk.New(sectors)
	if d == nil || err != api.OK {
		t.Fatalf("New(%d): error %d, or no disk", sectors, err)
	}
	return d
}

// is fails the test if an error is another one.
func is(t *testing.T, what string, got, want api.Errno) {
	t.Helper()
	if got != want {
		t.Errorf("%s: error %d, not %d", what, got, want)
	}
}

// ok fails the test if one of these calls was not done.
func ok(t *testing.T, errs ...api.Errno) {
	t.Helper()
	for i, err := range errs {
		if err != api.OK {
			t.Errorf("call %d: error %d", i, err)
		}
	}
}

// reads fails the test if a Read answers otherwise.
func reads(t *testing.T, d *disk.Disk, i int, b api.Block, err api.Errno) {
	t.Helper()
	if got, e := d.Read(i); got != b || e != err {
		t.Errorf("Read(%d): %d.. and error %d, not %d.. and %d", i, got[0], e, b[0], err)
	}
}

// holds fails the test if the disk, which has power and no fault, holds other blocks.
func holds(t *testing.T, d *disk.Disk, want ...api.Block) {
	t.Helper()
	for i, b := range want {
		reads(t, d, i, b, api.OK)
	}
}

// waits fails the test if the writes that wait are to other sectors.
func waits(t *testing.T, d *disk.Disk, want ...int) {
	t.Helper()
	if got := d.Pending(); !slices.Equal(got, want) {
		t.Errorf("Pending: %d, not %d", got, want)
	}
}

// did fails the test if another number of operations was done.
func did(t *testing.T, d *disk.Disk, want int) {
	t.Helper()
	if got := d.Ops(); got != want {
		t.Errorf("Ops: %d, not %d", got, want)
	}
}

// dead is a disk of 4 sectors whose power is gone: x is safe in 0, and y waits in 1.
func dead(t *testing.T) *disk.Disk {
	t.Helper()
	d := fresh(t, 4)
	ok(t, d.Write(0, x), d.Sync(), d.Write(1, y), d.Arm(0))
	is(t, "the write at which the power goes", d.Write(2, z), api.ErrDead)
	return d
}

// P2.1: as many sectors as 1 and 2048, and no more, and no fewer.
func TestNewAndLen(t *testing.T) {
	for _, n := range []int{0, 2049, -1, 2050, 1 << 20, math.MinInt, math.MaxInt} {
		if d, err := disk.New(n); d != nil || err != api.ErrArg {
			t.Errorf("New(%d): error %d, or a disk", n, err)
		}
	}
	for _, n := range []int{1, 2, 63, 64, 2047, 2048} {
		d := fresh(t, n)
		if d.Len() != n {
			t.Errorf("Len: %d, not %d", d.Len(), n)
		}
		reads(t, d, n, api.Block{}, api.ErrArg)
		is(t, "Write behind the last sector", d.Write(n, x), api.ErrArg)
	}
}

// P2.1: a new disk has power, noughts in all sectors, nothing that waits, no fuse and no fault.
func TestNewDisk(t *testing.T) {
	d := fresh(t, 2048)
	if d.Dead() {
		t.Error("dead at first")
	}
	waits(t, d)
	did(t, d, 0)
	for i := range 2048 {
		reads(t, d, i, api.Block{}, api.OK)
		is(t, "Write", d.Write(i, x), api.OK)
		is(t, "Sync", d.Sync(), api.OK)
	}
	did(t, d, 3*2048)
}

// P2.1: Len is what it was, whatever befell the disk.
func TestLenStays(t *testing.T) {
	d := dead(t)
	if d.Len() != 4 {
		t.Errorf("Len of a dead disk: %d", d.Len())
	}
	ok(t, d.Crash(nil))
	if d.Len() != 4 {
		t.Errorf("Len behind a crash: %d", d.Len())
	}
}

// P2.1 to P2.6: a disk that is nil.
func TestNilDisk(t *testing.T) {
	var d *disk.Disk
	if d.Len() != 0 || d.Ops() != 0 || d.Dead() || len(d.Pending()) != 0 || d.Copy() != nil {
		t.Error("a nil disk tells something")
	}
	for _, i := range append(nowhere, 0, 1) {
		reads(t, d, i, api.Block{}, api.ErrNil)
		is(t, "Write", d.Write(i, x), api.ErrNil)
		is(t, "Arm", d.Arm(i), api.ErrNil)
		is(t, "Fail", d.Fail(i), api.ErrNil)
	}
	is(t, "Sync", d.Sync(), api.ErrNil)
	is(t, "Crash(nothing)", d.Crash(nil), api.ErrNil)
	is(t, "Crash(true)", d.Crash([]bool{true}), api.ErrNil)
}

// P2.2: a sector holds the block of the last write to it, ahead of a sync and behind it.
func TestReadWriteSync(t *testing.T) {
	d := fresh(t, 3)
	ok(t, d.Write(1, x))
	holds(t, d, api.Block{}, x, api.Block{})
	ok(t, d.Write(1, y), d.Write(0, z))
	holds(t, d, z, y, api.Block{})
	ok(t, d.Sync())
	holds(t, d, z, y, api.Block{})
	ok(t, d.Write(1, api.Block{}))
	holds(t, d, z, api.Block{}, api.Block{})
	ok(t, d.Crash(nil))
	holds(t, d, z, y, api.Block{})
}

// P2.2: the whole block is kept, each byte of it.
func TestEachByteOfABlock(t *testing.T) {
	d := fresh(t, 64)
	for i := range 64 {
		var b api.Block
		b[i] = byte(200 + i)
		ok(t, d.Write(i, b))
		reads(t, d, i, b, api.OK)
	}
	ok(t, d.Sync())
	for i := range 64 {
		var b api.Block
		b[i] = byte(200 + i)
		reads(t, d, i, b, api.OK)
	}
}

// P2.2: of a sector that is not there: ErrArg, and nothing comes of it, the fuse and the fault not either.
func TestNoSuchSector(t *testing.T) {
	d := fresh(t, 4)
	ok(t, d.Write(0, x), d.Arm(0), d.Fail(0))
	for _, i := range nowhere {
		reads(t, d, i, api.Block{}, api.ErrArg)
		is(t, "Write", d.Write(i, y), api.ErrArg)
	}
	waits(t, d, 0)
	did(t, d, 1)
	if d.Dead() {
		t.Error("the power went at a write that was not asked")
	}
	is(t, "the one that fails", d.Write(0, y), api.ErrIo)
	is(t, "the one at which the power goes", d.Write(0, y), api.ErrDead)
}

// P2.2: of a dead disk: ErrDead, ahead of ErrArg and of the fault, and nothing comes of it.
func TestDeadDisk(t *testing.T) {
	d := dead(t)
	if !d.Dead() {
		t.Fatal("not dead")
	}
	for _, i := range append(nowhere, 0, 1, 2, 3) {
		reads(t, d, i, api.Block{}, api.ErrDead)
		is(t, "Write", d.Write(i, z), api.ErrDead)
	}
	is(t, "Sync", d.Sync(), api.ErrDead)
	waits(t, d, 1)
	did(t, d, 3)
	ok(t, d.Crash(nil))
	holds(t, d, x, api.Block{}, api.Block{}, api.Block{})
}

// P2.2: the fault: so many operations are done, of any kind, and the one behind these fails, once.
func TestFault(t *testing.T) {
	ops := []func(d *disk.Disk) api.Errno{
		func(d *disk.Disk) api.Errno { _, err := d.Read(0); return err },
		func(d *disk.Disk) api.Errno { return d.Write(1, y) },
		func(d *disk.Disk) api.Errno { return d.Sync() },
	}
	for n := range 7 {
		for first := range ops {
			d := fresh(t, 2)
			ok(t, d.Fail(n))
			for i := range 12 {
				want := api.OK
				if i == n {
					want = api.ErrIo
				}
				is(t, "an operation", ops[(first+i)%3](d), want)
			}
			did(t, d, 11)
		}
	}
}

// P2.2: what fails answers nothing and does nothing.
func TestFailedOperationDoesNothing(t *testing.T) {
	d := fresh(t, 2)
	ok(t, d.Write(0, x), d.Sync(), d.Write(0, y), d.Fail(0))
	reads(t, d, 0, api.Block{}, api.ErrIo)
	reads(t, d, 0, y, api.OK)
	ok(t, d.Fail(0))
	is(t, "Write", d.Write(0, z), api.ErrIo)
	waits(t, d, 0)
	holds(t, d, y)
	ok(t, d.Fail(0))
	is(t, "Sync", d.Sync(), api.ErrIo)
	waits(t, d, 0)
	ok(t, d.Crash(nil))
	holds(t, d, x)
}

// P2.2: the fuse: so many writes and syncs are done, and at the one behind these the power goes, be it a write or a sync.
func TestFuse(t *testing.T) {
	for n := range 6 {
		for _, atSync := range []bool{false, true} {
			d := fresh(t, 2)
			ok(t, d.Arm(n))
			for i := range n {
				reads(t, d, 0, api.Block{}, api.OK)
				if i%2 == 0 {
					ok(t, d.Write(1, x))
				} else {
					ok(t, d.Sync())
				}
			}
			reads(t, d, 0, api.Block{}, api.OK)
			before := d.Pending()
			if d.Dead() {
				t.Error("dead too early")
			}
			if atSync {
				is(t, "Sync", d.Sync(), api.ErrDead)
			} else {
				is(t, "Write", d.Write(0, y), api.ErrDead)
			}
			if !d.Dead() {
				t.Error("not dead")
			}
			waits(t, d, before...)
			did(t, d, 2*n+1)
		}
	}
}

// P2.2: the write at which the power goes is not done, and the sync makes nothing safe.
func TestNothingComesOfTheLastOne(t *testing.T) {
	d := fresh(t, 2)
	ok(t, d.Write(0, x), d.Arm(0))
	is(t, "Write", d.Write(1, y), api.ErrDead)
	ok(t, d.Crash([]bool{true, true}))
	holds(t, d, x, api.Block{})
	ok(t, d.Write(1, z), d.Arm(0))
	is(t, "Sync", d.Sync(), api.ErrDead)
	waits(t, d, 1)
	ok(t, d.Crash(nil))
	holds(t, d, x, api.Block{})
}

// P2.2: a fuse and a fault at one operation: it fails, and the power goes at the next write or sync.
func TestFuseAndFaultAtOnce(t *testing.T) {
	for _, sync := range []bool{false, true} {
		d := fresh(t, 2)
		change := func() api.Errno {
			if sync {
				return d.Sync()
			}
			return d.Write(0, x)
		}
		ok(t, d.Arm(1), d.Fail(1), d.Write(1, y))
		is(t, "first", change(), api.ErrIo)
		if d.Dead() {
			t.Error("the power went at what failed")
		}
		did(t, d, 1)
		reads(t, d, 1, y, api.OK)
		is(t, "second", change(), api.ErrDead)
		did(t, d, 2)
		is(t, "third", change(), api.ErrDead)
		ok(t, d.Crash(nil))
		ok(t, change())
	}
}

// P2.2: what fails does not use the fuse up, and what the fuse ends is not the fault's.
func TestFuseAndFaultApart(t *testing.T) {
	d := fresh(t, 2)
	ok(t, d.Arm(1), d.Fail(0))
	is(t, "the one that fails", d.Write(0, x), api.ErrIo)
	ok(t, d.Write(0, x))
	is(t, "the power goes", d.Write(0, y), api.ErrDead)

	d = fresh(t, 2)
	ok(t, d.Arm(0), d.Fail(1))
	is(t, "the power goes", d.Sync(), api.ErrDead)
	is(t, "a dead disk", d.Sync(), api.ErrDead)

	d = fresh(t, 2)
	ok(t, d.Arm(0), d.Fail(1))
	reads(t, d, 0, api.Block{}, api.OK)
	is(t, "the one that fails", d.Sync(), api.ErrIo)
	is(t, "the power goes", d.Sync(), api.ErrDead)
}

// P2.3: one for each write that waits, in their order, as often as a sector was written.
func TestPending(t *testing.T) {
	d := fresh(t, 4)
	var want []int
	waits(t, d)
	for _, i := range []int{3, 0, 3, 3, 2, 0, 1, 3} {
		ok(t, d.Write(i, x))
		want = append(want, i)
		waits(t, d, want...)
	}
	reads(t, d, 3, x, api.OK)
	is(t, "Write", d.Write(4, x), api.ErrArg)
	waits(t, d, want...)
	ok(t, d.Sync())
	waits(t, d)
	ok(t, d.Write(2, x))
	waits(t, d, 2)
	ok(t, d.Crash([]bool{true}))
	waits(t, d)
}

// P2.3: what is told is new memory.
func TestPendingIsNew(t *testing.T) {
	d := fresh(t, 4)
	ok(t, d.Write(1, x), d.Write(2, y))
	got := d.Pending()
	got[0], got[1] = 3, 3
	_ = append(got[:1], 3, 3, 3)
	waits(t, d, 1, 2)
	got = d.Pending()
	_ = append(got, 3, 3)
	ok(t, d.Write(0, z))
	waits(t, d, 1, 2, 0)
	if !slices.Equal(got, []int{1, 2}) {
		t.Errorf("what was told became %d", got)
	}
	ok(t, d.Crash([]bool{true, false, true}))
	holds(t, d, z, x, api.Block{}, api.Block{})
}

// P2.4: the number that was set last is the one that holds, counted from then on; below 0 there is none.
func TestArmAgain(t *testing.T) {
	for _, none := range []int{-1, -2, math.MinInt} {
		d := fresh(t, 2)
		ok(t, d.Arm(0), d.Arm(none))
		for range 5 {
			ok(t, d.Write(0, x), d.Sync())
		}
		ok(t, d.Arm(5), d.Arm(1), d.Sync())
		is(t, "behind a fuse of 1", d.Sync(), api.ErrDead)
	}
	d := fresh(t, 2)
	ok(t, d.Arm(1), d.Write(0, x), d.Arm(2), d.Write(0, x), d.Sync())
	is(t, "behind a fuse of 2", d.Write(0, x), api.ErrDead)
	d = fresh(t, 2)
	ok(t, d.Arm(math.MaxInt), d.Write(0, x), d.Sync())
}

// P2.4: the same of the fault.
func TestFailAgain(t *testing.T) {
	for _, none := range []int{-1, -2, math.MinInt} {
		d := fresh(t, 2)
		ok(t, d.Fail(0), d.Fail(none))
		for range 5 {
			ok(t, d.Write(0, x), d.Sync())
			reads(t, d, 0, x, api.OK)
		}
		ok(t, d.Fail(5), d.Fail(1), d.Sync())
		is(t, "behind a fault of 1", d.Sync(), api.ErrIo)
		ok(t, d.Sync())
	}
	d := fresh(t, 2)
	ok(t, d.Fail(1), d.Write(0, x), d.Fail(2), d.Write(0, x), d.Sync())
	is(t, "behind a fault of 2", d.Write(0, x), api.ErrIo)
	d = fresh(t, 2)
	ok(t, d.Fail(math.MaxInt), d.Write(0, x), d.Sync())
}

// P2.4: Arm and Fail are no operations: neither uses the other up, and neither counts.
func TestArmAndFailAreNoOperations(t *testing.T) {
	d := fresh(t, 2)
	ok(t, d.Arm(0), d.Fail(0), d.Arm(0), d.Fail(0), d.Arm(0))
	did(t, d, 0)
	is(t, "Sync", d.Sync(), api.ErrIo)
	is(t, "Sync", d.Sync(), api.ErrDead)
}

// P2.4: a dead disk takes neither, and stays dead.
func TestArmAndFailOfADeadDisk(t *testing.T) {
	d := dead(t)
	for _, n := range []int{0, 1, 100, -1, math.MinInt, math.MaxInt} {
		is(t, "Arm", d.Arm(n), api.ErrDead)
		is(t, "Fail", d.Fail(n), api.ErrDead)
	}
	if !d.Dead() {
		t.Error("not dead any more")
	}
	ok(t, d.Crash(nil))
	if d.Dead() {
		t.Error("dead behind a crash")
	}
	ok(t, d.Write(0, y), d.Sync())
	reads(t, d, 0, y, api.OK)
}

// P2.5: which writes live on, a disk with power and a dead one; keep may be shorter and longer than what waits.
func TestCrash(t *testing.T) {
	for _, c := range []struct {
		keep []bool
		want [3]api.Block
	}{
		{nil, [3]api.Block{x, {}, {}}},
		{[]bool{}, [3]api.Block{x, {}, {}}},
		{[]bool{false, false, false, false}, [3]api.Block{x, {}, {}}},
		{[]bool{true}, [3]api.Block{x, y, {}}},
		{[]bool{false, true}, [3]api.Block{z, {}, {}}},
		{[]bool{false, false, true}, [3]api.Block{x, z, {}}},
		{[]bool{false, false, false, true}, [3]api.Block{x, {}, x}},
		{[]bool{true, false, true}, [3]api.Block{x, z, {}}},
		{[]bool{true, true, false, true}, [3]api.Block{z, y, x}},
		{[]bool{true, true, true, true}, [3]api.Block{z, z, x}},
		{[]bool{true, true, true, true, false, true, true}, [3]api.Block{z, z, x}},
		{[]bool{false, false, false, false, true, true, true}, [3]api.Block{x, {}, {}}},
	} {
		for _, power := range []bool{true, false} {
			d := fresh(t, 3)
			ok(t, d.Write(0, x), d.Sync())
			ok(t, d.Write(1, y), d.Write(0, z), d.Write(1, z), d.Write(2, x))
			if !power {
				ok(t, d.Arm(0))
				is(t, "Sync", d.Sync(), api.ErrDead)
			}
			keep := slices.Clone(c.keep)
			ok(t, d.Crash(keep))
			if !slices.Equal(keep, c.keep) {
				t.Error("keep was changed")
			}
			waits(t, d)
			holds(t, d, c.want[:]...)
			for i := range keep {
				keep[i] = !keep[i]
			}
			holds(t, d, c.want[:]...)
			ok(t, d.Crash(nil))
			holds(t, d, c.want[:]...)
		}
	}
}

// P2.5: what stands behind keep's end is none of keep.
func TestCrashEndsWhereKeepEnds(t *testing.T) {
	whole := []bool{true, true, true}
	d := fresh(t, 3)
	ok(t, d.Write(0, x), d.Write(1, y), d.Write(2, z), d.Crash(whole[:1]))
	holds(t, d, x, api.Block{}, api.Block{})
	if !slices.Equal(whole, []bool{true, true, true}) {
		t.Error("the room behind keep's end was changed")
	}
}

// P2.5: behind a crash there is power, and neither a fuse nor a fault, whatever there was.
func TestCrashTakesFuseAndFault(t *testing.T) {
	for fuse := -1; fuse < 4; fuse++ {
		for fault := -1; fault < 4; fault++ {
			d := fresh(t, 2)
			ok(t, d.Arm(fuse), d.Fail(fault))
			d.Write(0, x)
			ok(t, d.Crash(nil))
			if d.Dead() {
				t.Error("dead behind a crash")
			}
			for range 5 {
				ok(t, d.Write(0, x), d.Sync())
				reads(t, d, 0, x, api.OK)
			}
		}
	}
}

// P2.6: Ops counts what was done, over all crashes, and nothing else.
func TestOps(t *testing.T) {
	d := fresh(t, 2)
	reads(t, d, 0, api.Block{}, api.OK)
	did(t, d, 1)
	ok(t, d.Write(0, x))
	did(t, d, 2)
	ok(t, d.Sync())
	did(t, d, 3)
	d.Read(2)
	d.Write(-1, x)
	ok(t, d.Fail(0))
	is(t, "Sync", d.Sync(), api.ErrIo)
	d.Pending()
	d.Len()
	d.Dead()
	d.Copy()
	ok(t, d.Arm(0))
	is(t, "Write", d.Write(0, x), api.ErrDead)
	d.Read(0)
	did(t, d, 3)
	ok(t, d.Crash([]bool{true}))
	did(t, d, 3)
	ok(t, d.Sync())
	did(t, d, 4)
	ok(t, d.Crash(nil))
	did(t, d, 4)
}

// P2.6: a copy is just as the disk: what is safe, what waits, the fuse, the fault, what was done, and whether it is dead.
func TestCopyIsTheSame(t *testing.T) {
	d := fresh(t, 3)
	ok(t, d.Write(0, x), d.Sync(), d.Write(2, y), d.Write(0, z), d.Write(2, x))
	reads(t, d, 1, api.Block{}, api.OK)
	ok(t, d.Arm(2), d.Fail(1))
	c := d.Copy()
	if c == nil || c == d {
		t.Fatal("no disk of its own")
	}
	for _, one := range []*disk.Disk{c, d} {
		if one.Len() != 3 || one.Dead() {
			t.Error("Len, Dead")
		}
		waits(t, one, 2, 0, 2)
		did(t, one, 6)
		reads(t, one, 2, x, api.OK)
		is(t, "the one that fails", one.Sync(), api.ErrIo)
		reads(t, one, 0, z, api.OK)
		ok(t, one.Write(1, x), one.Write(1, y))
		is(t, "the power goes", one.Write(1, z), api.ErrDead)
		dead := one.Copy()
		if !dead.Dead() {
			t.Error("the copy of a dead disk has power")
		}
		is(t, "Sync of the copy of a dead disk", dead.Sync(), api.ErrDead)
		waits(t, dead, 2, 0, 2, 1, 1)
		did(t, dead, 10)
		ok(t, dead.Crash([]bool{true, true, false, true}))
		holds(t, dead, z, x, y)
	}
}

// P2.6: neither has to do with the other, whichever of the two goes on.
func TestCopyIsApart(t *testing.T) {
	for _, swapped := range []bool{false, true} {
		d := fresh(t, 3)
		ok(t, d.Write(1, x), d.Sync(), d.Write(0, x), d.Write(1, y), d.Write(2, z))
		one, other := d, d.Copy()
		if swapped {
			one, other = other, one
		}
		// A write to each sector, ahead of whose waiting writes others of a neighbour may lie.
		ok(t, one.Write(0, z), one.Write(1, z), one.Write(2, x), one.Write(0, y))
		holds(t, one, y, z, x)
		waits(t, one, 0, 1, 2, 0, 1, 2, 0)
		holds(t, other, x, y, z)
		waits(t, other, 0, 1, 2)
		ok(t, other.Write(2, y))
		waits(t, one, 0, 1, 2, 0, 1, 2, 0)
		ok(t, one.Crash(slices.Repeat([]bool{true}, 3)))
		holds(t, one, x, y, z)
		holds(t, other, x, y, y)
		ok(t, one.Sync(), one.Fail(0), one.Arm(0))
		is(t, "Sync", one.Sync(), api.ErrIo)
		is(t, "Sync", one.Sync(), api.ErrDead)
		holds(t, other, x, y, y)
		ok(t, other.Crash(nil))
		holds(t, other, api.Block{}, x, api.Block{})
		if !one.Dead() {
			t.Error("a crash of the one brought the other's power back")
		}
	}
}

// P2.6: a disk and its copy are written in turn, behind as many writes that wait as make rows of all sizes: neither runs into the other's.
func TestCopyAndDiskInTurn(t *testing.T) {
	for n := range 20 {
		d := fresh(t, 2)
		var want []int
		for i := range n {
			ok(t, d.Write(i%2, block(i)))
			want = append(want, i%2)
		}
		c := d.Copy()
		ok(t, d.Write(0, x), c.Write(1, y), d.Write(1, z), c.Write(0, z), c.Write(0, x))
		waits(t, d, append(slices.Clone(want), 0, 1)...)
		waits(t, c, append(slices.Clone(want), 1, 0, 0)...)
		first := slices.Repeat([]bool{false}, n)
		ok(t, d.Crash(append(slices.Clone(first), true, true)))
		holds(t, d, x, z)
		ok(t, c.Crash(append(slices.Clone(first), true, true)))
		holds(t, c, z, y)
	}
}

// P2.7: what is safe stays over all crashes, till its sector is written again.
func TestSafeStays(t *testing.T) {
	d := fresh(t, 3)
	ok(t, d.Write(0, x), d.Write(1, y), d.Sync())
	for n := range 8 {
		ok(t, d.Write(2, block(n)), d.Write(1, z))
		ok(t, d.Crash([]bool{n%2 == 0, false, n%4 == 0}))
		reads(t, d, 0, x, api.OK)
		reads(t, d, 1, y, api.OK)
	}
	ok(t, d.Write(1, z), d.Crash([]bool{true}), d.Crash(nil))
	holds(t, d, x, z)
}

// P2.7: over all that a crash may keep, a sector holds what it held at some time since the last Sync; if all is kept what it held last, if nothing what it held then.
func TestWhateverACrashKeeps(t *testing.T) {
	sectors := []int{0, 1, 0, 2, 1, 0, 0, 2}
	for bits := range 1 << len(sectors) {
		d := fresh(t, 4)
		ok(t, d.Write(0, x), d.Write(1, y), d.Write(3, z), d.Sync())
		held := [4][]api.Block{{x}, {y}, {{}}, {z}}
		want := [4]api.Block{x, y, {}, z}
		var keep []bool
		for n, i := range sectors {
			b := block(10 + n)
			ok(t, d.Write(i, b))
			held[i] = append(held[i], b)
			keep = append(keep, bits>>n&1 == 1)
			if keep[n] {
				want[i] = b
			}
		}
		ok(t, d.Crash(keep))
		for i, b := range want {
			reads(t, d, i, b, api.OK)
			if !slices.Contains(held[i], b) {
				t.Errorf("sector %d holds what it never held", i)
			}
		}
	}
}

// P2.7: a read does not use the fuse up.
func TestReadsLeaveTheFuse(t *testing.T) {
	d := fresh(t, 2)
	ok(t, d.Arm(1))
	for range 10 {
		reads(t, d, 1, api.Block{}, api.OK)
	}
	ok(t, d.Write(0, x))
	for range 10 {
		reads(t, d, 0, x, api.OK)
	}
	is(t, "the power goes", d.Write(0, y), api.ErrDead)
}
