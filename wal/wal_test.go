package wal_test

import (
	"bytes"
	"math"
	"slices"
	"strconv"
	"testing"

	"confluence/api"
	"confluence/disk"
	"confluence/wal"
)

// last is the last turn that there is.
const last = 4294967295

// row is a row of n bytes that is n's and the seed's alone, none of them a nought.
func row(n, seed int) []byte {
	b := make([]byte, n)
	for i := range b {
		b[i] = byte(1 + (11*i+n+31*seed)%255)
	}
	return b
}

// is fails the test if an error is another one.
func is(t *testing.T, what string, got, want api.Errno) {
	t.Helper()
	if got != want {
		t.Errorf("%s: error %d, not %d", what, got, want)
	}
}

// ok fails the test if one of these calls told an error.
func ok(t *testing.T, errs ...api.Errno) {
	t.Helper()
	for i, err := range errs {
		if err != api.OK {
			t.Errorf("call %d: error %d", i, err)
		}
	}
}

// empty is a disk of so many sectors.
func empty(t *testing.T, sectors int) *disk.Disk {
	t.Helper()
	d, err := disk.New(sectors)
	if err != api.OK {
		t.Fatalf("New(%d): error %d", sectors, err)
	}
	return d
}

// formatted is a log on a disk of its own that has just room for it.
func formatted(t *testing.T, area int) *wal.Wal {
	t.Helper()
	w, err := wal.Format(empty(t, 2+2*area), area)
	if w == nil || err != api.OK {
		t.Fatalf("Format(%d): error %d, or no log", area, err)
	}
	return w
}

// opened is the log of a disk.
func opened(t *testing.T, d *disk.Disk) *wal.Wal {
	t.Helper()
	w, err := wal.Open(d)
	if w == nil || err != api.OK {
		t.Fatalf("Open: error %d, or no log", err)
	}
	return w
}

// refuses fails the test if Open answers another error, or a log beside it.
func refuses(t *testing.T, what string, d *disk.Disk, want api.Errno) {
	t.Helper()
	if w, err := wal.Open(d); w != nil || err != want {
		t.Errorf("%s: error %d, not %d, or a log", what, err, want)
	}
}

// lay writes sectors from a place on, and syncs.
func lay(t *testing.T, d *disk.Disk, from int, sectors ...api.Block) {
	t.Helper()
	ok(t, doAll(d, append(writing(from, sectors...), syncing)))
}

// laidOut is a disk with these heads, and these pieces in the area of a turn, that has just room for it.
func laidOut(t *testing.T, turn uint64, area int, pieces ...api.Block) *disk.Disk {
	t.Helper()
	d := empty(t, 2+2*area)
	lay(t, d, int(turn%2), modelHead(turn, uint64(area)))
	lay(t, d, firstOf(turn, area), pieces...)
	return d
}

// spoilt is a disk on which no sector is of noughts, and on which writes wait.
func spoilt(t *testing.T, sectors int) *disk.Disk {
	t.Helper()
	d := empty(t, sectors)
	for i := range sectors {
		ok(t, d.Write(i, modelSealed([]byte{byte(i + 1)})))
	}
	ok(t, d.Sync(), d.Write(sectors-1, modelSealed([]byte{200})), d.Write(3, modelSealed([]byte{201})))
	return d
}

// P4.1 to P4.4: the chapter's examples.
func TestExamples(t *testing.T) {
	w := formatted(t, 4)
	tells(t, "Format", w, state{left: 3})
	ok(t, w.Append(row(44, 0)), w.Append(row(45, 0)))
	is(t, "Append of 1 byte", w.Append(row(1, 0)), api.ErrFull)
	tells(t, "Append", w, state{list: [][]byte{row(44, 0), row(45, 0)}})
	ok(t, w.Checkpoint(row(1, 0)))
	tells(t, "Checkpoint", w, state{turn: 1, left: 3, snapshot: row(1, 0)})

	w = formatted(t, 4)
	d := w.Disk()
	ok(t, d.Arm(1))
	is(t, "Append with the fuse 1", w.Append(row(45, 0)), api.ErrDead)
	ok(t, d.Crash(slices.Repeat([]bool{true}, len(d.Pending()))))
	tells(t, "Open", opened(t, d), state{left: 3})
	refuses(t, "a new disk", empty(t, 10), api.ErrWal)
}

// P4.1: a nil disk goes ahead of an area that may not be; that, or too few sectors, ahead of a disk that is dead. Nothing is done with the disk.
func TestFormatRefuses(t *testing.T) {
	for _, c := range []struct{ sectors, area int }{
		{2048, 3}, {2048, 1001}, {2048, 0}, {2048, -1}, {2048, -4}, {2048, math.MinInt}, {2048, math.MaxInt}, {2048, 1 << 62}, {2048, -1 << 62},
		{9, 4}, {1, 4}, {2, 4}, {11, 5}, {2001, 1000}, {1000, 1000}, {2001, 1001}, {10, 5},
	} {
		d := empty(t, c.sectors)
		if w, err := wal.Format(d, c.area); w != nil || err != api.ErrArg {
			t.Errorf("Format(%d) of %d sectors: error %d, or a log", c.area, c.sectors, err)
		}
		ok(t, d.Arm(0))
		d.Sync()
		if w, err := wal.Format(d, c.area); w != nil || err != api.ErrArg {
			t.Errorf("Format(%d) of %d sectors without power: error %d, or a log", c.area, c.sectors, err)
		}
		if d.Ops() != 0 || len(d.Pending()) != 0 {
			t.Errorf("Format(%d) of %d sectors did something", c.area, c.sectors)
		}
		if w, err := wal.Format(nil, c.area); w != nil || err != api.ErrNil {
			t.Errorf("Format(%d) of no disk: error %d, or a log", c.area, err)
		}
	}
	if w, err := wal.Format(nil, 4); w != nil || err != api.ErrNil {
		t.Errorf("Format of no disk: error %d, or a log", err)
	}
}

// P4.1: each step, and the first error of the disk, whatever was there ahead of it; sectors behind the areas stay.
func TestFormatSteps(t *testing.T) {
	for _, c := range []struct{ sectors, area int }{{10, 4}, {13, 4}, {12, 5}} {
		follows(t, "Format", spoilt(t, c.sectors), formatting(c.area), func(d *disk.Disk) func() api.Errno {
			return func() api.Errno {
				w, err := wal.Format(d, c.area)
				if (w != nil) != (err == api.OK) {
					t.Errorf("Format: error %d, and a log, or none of the two", err)
				}
				if w != nil {
					tells(t, "Format", w, state{left: c.area - 1})
				}
				return err
			}
		})
	}
}

// P4.1: the smallest areas and the greatest ones, with as many sectors as they take, and more.
func TestFormatEdges(t *testing.T) {
	for _, c := range []struct{ sectors, area int }{{10, 4}, {11, 4}, {2048, 4}, {2002, 1000}, {2003, 1000}, {2048, 1000}, {2048, 999}} {
		d := spoilt(t, c.sectors)
		want := d.Copy()
		w, err := wal.Format(d, c.area)
		ok(t, err, doAll(want, formatting(c.area)))
		sameDisk(t, "Format", d, want)
		if w.Disk() != d || w.Broken() {
			t.Error("a new log is broken, or has another disk")
		}
		tells(t, "Format", w, state{left: c.area - 1})
		tells(t, "Open", opened(t, d), state{left: c.area - 1})
	}
}

// P4.1: a log that was there is gone.
func TestFormatOverALog(t *testing.T) {
	w := formatted(t, 4)
	ok(t, w.Append(row(9, 1)), w.Checkpoint(row(90, 2)), w.Append(row(7, 3)))
	again, err := wal.Format(w.Disk(), 4)
	ok(t, err)
	tells(t, "Format", again, state{left: 3})
	tells(t, "Open", opened(t, w.Disk()), state{left: 3})
}

// The heads, and the sectors of pieces, as the document says them, digits written out; the seals were reckoned by another tool.
func TestSectorsWrittenOut(t *testing.T) {
	w := formatted(t, 4)
	ok(t, w.Append([]byte("ab")), w.Checkpoint(nil))
	d := w.Disk()
	for i, want := range goldenSectors() {
		if got, _ := d.Read(i); got != want {
			t.Errorf("sector %d: % x, not % x", i, got, want)
		}
	}
}

// goldenSectors are the sectors 0 to 9 of that disk.
func goldenSectors() [10]api.Block {
	at := func(s string, rest ...byte) api.Block {
		var b api.Block
		copy(b[copy(b[:], s):], rest)
		return b
	}
	return [10]api.Block{
		0: at("\x89\xc1\x2c\xe6"+"riverlog", 0, 0, 0, 0, 0, 0, 0, 4),
		1: at("\x3c\xf4\xd4\x61"+"riverlog", 0, 0, 0, 1, 0, 0, 0, 4),
		2: at("\x1d\x5e\xef\xa2", 0, 0, 0, 0, 0, 0, 0, 0, 0, 0, 0, 1),
		3: at("\x55\x13\xcd\x1a", 0, 0, 0, 0, 0, 0, 0, 1, 0, 0, 0, 1, 0, 0, 0, 2, 'a', 'b'),
		6: at("\x9e\xbb\x10\x98", 0, 0, 0, 1, 0, 0, 0, 0, 0, 0, 0, 1),
	}
}

// P4.2: no disk; a disk of one sector has no sector 1 to be read; disks without heads.
func TestOpenRefuses(t *testing.T) {
	refuses(t, "no disk", nil, api.ErrNil)
	refuses(t, "one sector", empty(t, 1), api.ErrArg)
	refuses(t, "two sectors", empty(t, 2), api.ErrWal)
	refuses(t, "ten sectors", empty(t, 10), api.ErrWal)
	refuses(t, "no head", spoilt(t, 10), api.ErrWal)
	d := empty(t, 10)
	ok(t, d.Arm(0))
	d.Sync()
	refuses(t, "no power", d, api.ErrDead)
}

// P4.2: which heads hold: those that are sealed, in the sector of their turn, with letters and noughts, and areas that may be and have room.
func TestWhichHeadsHold(t *testing.T) {
	whole := modelHead(6, 4)
	for i := range whole {
		for _, bit := range []byte{1, 128} {
			s := whole
			s[i] ^= bit
			d := laidOut(t, 6, 4, modelPieces(6, row(3, 0))...)
			lay(t, d, 0, s)
			refuses(t, "a bit of the head is another one", d, api.ErrWal)
			if i >= 4 && (i < 12 || i >= 20) {
				lay(t, d, 0, modelSealed(s[4:]))
				refuses(t, "a byte of a sealed head is another one", d, api.ErrWal)
			}
		}
	}
	for _, c := range []struct {
		sectors, sector int
		turn, area      uint64
		want            api.Errno
	}{
		{10, 0, 6, 4, api.OK}, {10, 1, 6, 4, api.ErrWal}, {10, 1, 7, 4, api.OK}, {10, 0, 7, 4, api.ErrWal},
		{10, 0, 0, 4, api.OK}, {10, 1, 0, 4, api.ErrWal}, {10, 1, last, 4, api.OK}, {10, 0, last, 4, api.ErrWal}, {10, 0, last - 1, 4, api.OK},
		{2048, 0, 6, 3, api.ErrWal}, {2048, 0, 6, 0, api.ErrWal}, {2048, 0, 6, last, api.ErrWal}, {2048, 0, 6, 1 << 31, api.ErrWal}, {2048, 0, 6, 1<<31 + 4, api.ErrWal},
		{9, 0, 6, 4, api.ErrWal}, {10, 0, 6, 5, api.ErrWal}, {11, 0, 6, 5, api.ErrWal}, {12, 0, 6, 5, api.OK}, {2048, 0, 6, 5, api.OK},
		{2002, 1, 7, 1000, api.OK}, {2001, 1, 7, 1000, api.ErrWal}, {2048, 1, 7, 1001, api.ErrWal},
	} {
		d := empty(t, c.sectors)
		lay(t, d, c.sector, modelHead(c.turn, c.area))
		if from := firstOf(c.turn, int(c.area)); from < c.sectors {
			lay(t, d, from, modelPieces(c.turn, row(3, 0))...)
		}
		if c.want != api.OK {
			refuses(t, "a head", d, c.want)
			continue
		}
		tells(t, "a head", opened(t, d), state{turn: uint32(c.turn), left: int(c.area) - 1, snapshot: row(3, 0)})
	}
}

// P4.2: of two heads that hold the one of the greater turn, be the other one a turn older or many; one that does not hold is as none.
func TestWhichHeadIsTheNewest(t *testing.T) {
	for _, c := range []struct {
		even, odd uint64
		areas     [2]uint64
		newest    int
	}{
		{0, 1, [2]uint64{4, 4}, 1}, {2, 1, [2]uint64{4, 4}, 0}, {2, 3, [2]uint64{4, 4}, 1}, {0, last, [2]uint64{4, 4}, 1},
		{last - 1, last, [2]uint64{4, 4}, 1}, {last - 1, 1, [2]uint64{4, 4}, 0}, {1 << 31, 1, [2]uint64{4, 4}, 0}, {256, 255, [2]uint64{4, 4}, 0}, {2, 257, [2]uint64{4, 4}, 1},
		{2, 3, [2]uint64{4, 5}, 1}, {4, 3, [2]uint64{4, 5}, 0}, {4, 3, [2]uint64{5, 4}, 0}, {2, 3, [2]uint64{5, 4}, 1},
		{2, 3, [2]uint64{4, 3}, 0}, {4, 3, [2]uint64{1001, 4}, 1}, {2, 3, [2]uint64{4, 6}, 0}, {2, 3, [2]uint64{4, 0}, 0},
	} {
		d := empty(t, 13)
		turns := [2]uint64{c.even, c.odd}
		lay(t, d, 0, modelHead(c.even, c.areas[0]), modelHead(c.odd, c.areas[1]))
		turn, area := turns[c.newest], int(c.areas[c.newest])
		for i := range 2 {
			if from := firstOf(turns[1-i], int(c.areas[1-i])); c.areas[1-i] < 6 {
				lay(t, d, from, modelPieces(turns[1-i], row(5, 1))...)
			}
		}
		lay(t, d, firstOf(turn, area), modelPieces(turn, row(3, 0), row(50, 2))...)
		want := state{turn: uint32(turn), left: area - 3, snapshot: row(3, 0), list: [][]byte{row(50, 2)}}
		tells(t, "two heads", opened(t, d), want)
	}
}

// P4.2: that an older head has a snapshot does not count.
func TestNewestHeadWithoutSnapshot(t *testing.T) {
	d := laidOut(t, 6, 4, modelPieces(6, row(3, 0))...)
	lay(t, d, 1, modelHead(7, 4))
	before := d.Copy()
	refuses(t, "the newest head has no snapshot", d, api.ErrWal)
	ok(t, doAll(before, opening(7, 4, nil, false)))
	sameDisk(t, "Open", d, before)
}

// flawed are rows of sectors, in an area of 6 sectors and the turn 6, that begin by no piece of a number.
func flawed(number uint64) map[string][]api.Block {
	two := modelPiece(6, number, row(45, 0))
	list := map[string][]api.Block{
		"no sector":                      nil,
		"another turn":                   modelPiece(4, number, row(3, 0)),
		"the next turn":                  modelPiece(7, number, row(3, 0)),
		"another number":                 modelPiece(6, number+1, row(3, 0)),
		"a part that is not the first":   {modelSector(6, number, 1, 1, laid(3, 4))},
		"no parts":                       {modelSector(6, number, 0, 0, laid(3, 4))},
		"too many parts":                 {modelSector(6, number, 0, 2, laid(3, 4)), modelSector(6, number, 1, 2, nil)},
		"too few parts":                  {modelSector(6, number, 0, 1, laid(45, 4))},
		"half of two parts":              two[:1],
		"the other half":                 two[1:],
		"the halves in the other order":  {two[1], two[0]},
		"the first half twice":           {two[0], two[0]},
		"the second half of another one": {two[0], modelPiece(6, number+1, row(45, 0))[1]},
		"the second half of a past turn": {two[0], modelPiece(4, number, row(45, 0))[1]},
		"no noughts behind the bytes":    {modelSector(6, number, 0, 1, joined(laid(3, 4), row(4, 0)))},
		"no nought at the very end":      {modelSector(6, number, 0, 1, joined(laid(43, 4), row(44, 0)))},
		"no noughts in the second part":  modelCut(6, number, joined(laid(60, 4), row(61, 0))),
		"more sectors than the area has": modelPiece(6, number, row(6*48-3, 0)),
		"more bytes than there are":      {modelSector(6, number, 0, 1, laid(last, 4))},
		"2^31 and 3 bytes":               {modelSector(6, number, 0, 1, laid(1<<31+3, 4))},
		"not a piece, but a head":        {modelHead(6, 6)},
		"noughts ahead of it":            append([]api.Block{{}}, modelPiece(6, number, row(3, 0))...),
	}
	for _, n := range []int{3, 45} {
		for i := range modelPiece(6, number, row(n, 0)) {
			for at := range 64 {
				piece := modelPiece(6, number, row(n, 0))
				piece[i][at] ^= 64
				list["a bit that is another one, of the byte "+strconv.Itoa(64*i+at)+" of "+strconv.Itoa(n)+" bytes"] = piece
			}
		}
	}
	return list
}

// P4.2: what is no snapshot.
func TestWhatIsNoSnapshot(t *testing.T) {
	for what, sectors := range flawed(0) {
		d := laidOut(t, 6, 6, sectors...)
		before := d.Copy()
		refuses(t, what, d, api.ErrWal)
		ok(t, doAll(before, opening(6, 6, nil, false)))
		sameDisk(t, what, d, before)
		lay(t, d, 8, make([]api.Block, 6)...)
		lay(t, d, 2, modelPieces(6, row(3, 0))...)
		opened(t, d)
	}
}

// P4.2: with what is no transaction the pieces end, whatever stands behind it; noughts are laid over it.
func TestWhatIsNoTransaction(t *testing.T) {
	first := modelPieces(6, row(7, 0), row(8, 1))
	for what, sectors := range flawed(2) {
		area := slices.Concat(first, sectors, modelPiece(6, 2, row(3, 0)), modelPiece(6, 1, row(3, 0)))[:max(3, min(6, 4+len(sectors)))]
		if what == "no sector" {
			area = append(slices.Clone(first), modelPiece(6, 3, row(3, 0))...)
		}
		d := laidOut(t, 6, 6, area...)
		want := state{turn: 6, left: 4, snapshot: row(7, 0), list: [][]byte{row(8, 1)}}
		tells(t, what, opened(t, d), want)
		for i := 4; i < 8; i++ {
			if s, err := d.Read(i); s != (api.Block{}) || err != api.OK {
				t.Errorf("%s: sector %d is not all noughts", what, i)
			}
		}
		if len(d.Pending()) != 0 {
			t.Errorf("%s: noughts wait", what)
		}
		tells(t, what, opened(t, d), want)
	}
}

// P4.2: transactions in the order of their numbers, each once.
func TestNumbersOfTransactions(t *testing.T) {
	piece := func(number uint64) []api.Block { return modelPiece(6, number, row(3, int(number))) }
	for _, c := range []struct {
		numbers []uint64
		n       int
	}{
		{[]uint64{0, 1, 2, 3, 4, 5}, 5}, {[]uint64{0, 2, 1}, 0}, {[]uint64{0, 1, 1, 2}, 1}, {[]uint64{0, 1, 3}, 1}, {[]uint64{0, 0, 1}, 0},
		{[]uint64{0, 1, 2, 0, 3}, 2}, {[]uint64{0, 1, 257, 2}, 1}, {[]uint64{0, 65537}, 0}, {[]uint64{0, last}, 0}, {[]uint64{0}, 0},
	} {
		var sectors []api.Block
		want := state{turn: 6, left: 5 - c.n, snapshot: row(3, 0)}
		for i, number := range c.numbers {
			sectors = append(sectors, piece(number)...)
			if i > 0 && i <= c.n {
				want.list = append(want.list, row(3, i))
			}
		}
		tells(t, "numbers", opened(t, laidOut(t, 6, 6, sectors...)), want)
	}
}

// P4.2: pieces lie in the area, all of it: what reaches into the next area, or behind the disk's areas, does not count.
func TestPiecesEndWithTheArea(t *testing.T) {
	for _, turn := range []uint64{6, 7} {
		d := empty(t, 2+2*5+4)
		lay(t, d, int(turn%2), modelHead(turn, 5))
		lay(t, d, firstOf(turn, 5), modelPieces(turn, row(60, 0), row(50, 1), row(60, 2))...)
		want := state{turn: uint32(turn), left: 1, snapshot: row(60, 0), list: [][]byte{row(50, 1)}}
		beyond, _ := d.Read(firstOf(turn, 5) + 5)
		tells(t, "a piece that is cut off by the area's end", opened(t, d), want)
		if s, _ := d.Read(firstOf(turn, 5) + 5); s != beyond || s == (api.Block{}) {
			t.Error("what lies behind the area was written")
		}
		if s, _ := d.Read(firstOf(turn, 5) + 4); s != (api.Block{}) {
			t.Error("what lies at the area's end was not cleared")
		}

		d = empty(t, 2+2*5+4)
		lay(t, d, int(turn%2), modelHead(turn, 5))
		lay(t, d, firstOf(turn, 5), modelPieces(turn, row(60, 0), row(140, 1), row(1, 2))...)
		want = state{turn: uint32(turn), left: 0, snapshot: row(60, 0), list: [][]byte{row(140, 1)}}
		tells(t, "a piece that just has room", opened(t, d), want)
	}
}

// P4.2: pieces of as many bytes as there may be, and of one more.
func TestOpenOfLongPieces(t *testing.T) {
	d := laidOut(t, 7, 1000, modelPieces(7, row(40000, 0), row(3, 1))...)
	tells(t, "40000 bytes", opened(t, d), state{turn: 7, left: 165, snapshot: row(40000, 0), list: [][]byte{row(3, 1)}})
	refuses(t, "40001 bytes", laidOut(t, 7, 1000, modelPieces(7, row(40001, 0))...), api.ErrWal)
	d = laidOut(t, 6, 1000, modelPieces(6, row(3, 0), row(40000, 1), row(3, 2))...)
	tells(t, "40000 bytes", opened(t, d), state{turn: 6, left: 164, snapshot: row(3, 0), list: [][]byte{row(40000, 1), row(3, 2)}})
	d = laidOut(t, 6, 1000, modelPieces(6, row(3, 0), row(40001, 1), row(3, 2))...)
	tells(t, "40001 bytes", opened(t, d), state{turn: 6, left: 999, snapshot: row(3, 0)})
}

// P4.2: pieces of no bytes count as others do.
func TestOpenOfEmptyPieces(t *testing.T) {
	d := laidOut(t, 6, 4, modelPieces(6, nil, nil, row(44, 0), nil)...)
	tells(t, "no bytes", opened(t, d), state{turn: 6, snapshot: nil, list: [][]byte{nil, row(44, 0), nil}})
}

// P4.2: each step of Open, and the first error of the disk: sectors to be cleared, writes that wait, both, none.
func TestOpenSteps(t *testing.T) {
	junk := modelSealed([]byte("junk"))
	for _, turn := range []uint64{6, 7} {
		first, other := firstOf(turn, 5), firstOf(turn+1, 5)
		want := state{turn: uint32(turn), left: 3, snapshot: row(3, 0), list: [][]byte{row(4, 1)}}
		for _, c := range []struct {
			what    string
			spoil   []op
			cleared []int
			sync    bool
		}{
			{"nothing to be done", nil, nil, false},
			{"what is not of the area", slices.Concat(writing(other, junk, junk), writing(12, junk), []op{syncing}), nil, false},
			{"a sector at the end", append(writing(first+4, junk), syncing), []int{first + 4}, true},
			{"all sectors", append(writing(first+2, junk, junk, junk), syncing), []int{first + 2, first + 3, first + 4}, true},
			{"one between noughts", append(writing(first+3, junk), syncing), []int{first + 3}, true},
			{"two around noughts", slices.Concat(writing(first+2, junk), writing(first+4, junk), []op{syncing}), []int{first + 2, first + 4}, true},
			{"one bit", append(writing(first+3, api.Block{63: 1}), syncing), []int{first + 3}, true},
			{"a write that waits, elsewhere", writing(12, junk), nil, true},
			{"a write that waits, in the other area", writing(other+1, junk), nil, true},
			{"a write that waits, in the area", writing(first+3, junk), []int{first + 3}, true},
			{"noughts that wait", slices.Concat(writing(first+3, junk), []op{syncing}, writing(first+3, api.Block{})), nil, true},
			{"a transaction that waits", writing(first+1, modelPiece(turn, 1, row(4, 1))...), nil, true},
		} {
			start := empty(t, 13)
			lay(t, start, int(turn%2), modelHead(turn, 5))
			lay(t, start, first, modelPieces(turn, row(3, 0), row(4, 1))...)
			ok(t, doAll(start, c.spoil))
			follows(t, c.what, start, opening(turn, 5, c.cleared, c.sync), func(d *disk.Disk) func() api.Errno {
				return func() api.Errno {
					w, err := wal.Open(d)
					if (w != nil) != (err == api.OK) {
						t.Errorf("Open: error %d, and a log, or none of the two", err)
					}
					if w != nil {
						tells(t, c.what, w, want)
						if w.Disk() != d || w.Broken() {
							t.Error("an opened log is broken, or has another disk")
						}
					}
					return err
				}
			})
		}
	}
}

// P4.2: what is read of a disk goes by what its sectors hold, so a head or a snapshot that waits counts, and is safe then.
func TestOpenOfWhatWaits(t *testing.T) {
	d := laidOut(t, 6, 4, modelPieces(6, row(3, 0))...)
	ok(t, doAll(d, writing(6, modelPieces(7, row(9, 0))...)), doAll(d, writing(1, modelHead(7, 4))))
	want := state{turn: 7, left: 3, snapshot: row(9, 0)}
	tells(t, "Open", opened(t, d), want)
	ok(t, d.Crash(nil))
	tells(t, "Open behind a crash", opened(t, d), want)
}

// P4.3: of several errors the first: a nil log, too many bytes, a broken log, no room. What is refused is not begun, even where the power is gone.
func TestOrderOfErrors(t *testing.T) {
	var none *wal.Wal
	calls := []func(w *wal.Wal, b []byte) api.Errno{(*wal.Wal).Append, (*wal.Wal).Checkpoint}
	for _, call := range calls {
		for _, n := range []int{0, 40000, 40001} {
			is(t, "a nil log", call(none, row(n, 0)), api.ErrNil)
		}
		w := formatted(t, 4)
		ok(t, w.Append(row(5, 0)))
		d := w.Disk()
		before := d.Copy()
		is(t, "40001 bytes", call(w, row(40001, 0)), api.ErrLong)
		is(t, "100000 bytes", call(w, row(100000, 0)), api.ErrLong)
		is(t, "40000 bytes", call(w, row(40000, 0)), api.ErrFull)
		is(t, "189 bytes", call(w, row(189, 0)), api.ErrFull)
		sameDisk(t, "what was refused", d, before)
		ok(t, d.Arm(0))
		is(t, "40001 bytes", call(w, row(40001, 0)), api.ErrLong)
		is(t, "189 bytes", call(w, row(189, 0)), api.ErrFull)
		d.Sync()
		is(t, "40001 bytes without power", call(w, row(40001, 0)), api.ErrLong)
		is(t, "189 bytes without power", call(w, row(189, 0)), api.ErrFull)
		if w.Broken() {
			t.Error("what was refused broke the log")
		}
		tells(t, "what was refused", w, state{left: 2, list: [][]byte{row(5, 0)}})
		is(t, "1 byte without power", call(w, row(1, 0)), api.ErrDead)
		is(t, "40001 bytes of a broken log", call(w, row(40001, 0)), api.ErrLong)
		is(t, "189 bytes of a broken log", call(w, row(189, 0)), api.ErrIo)
		is(t, "1 byte of a broken log", call(w, row(1, 0)), api.ErrIo)
	}
}

// P4.3: each step of an Append, and the first error of the disk: pieces of one part and of more, at the area's beginning and at its end, in both areas.
func TestAppendSteps(t *testing.T) {
	for _, turn := range []uint64{6, 7, last} {
		for _, texts := range [][][]byte{{nil}, {row(44, 0)}, {row(45, 0), nil}, {row(3, 0), row(60, 1), row(1, 2)}, {row(3, 0), nil, nil, nil, row(44, 1)}} {
			start := laidOut(t, turn, 6, modelPieces(turn, texts...)...)
			used := len(modelPieces(turn, texts...))
			old := state{turn: uint32(turn), left: 6 - used, snapshot: texts[0], list: texts[1:]}
			for _, n := range []int{0, 1, 44, 45, 92, 93, 140, 141, 188, 189, 236, 237} {
				b := row(n, 9)
				if len(modelPiece(turn, 0, b)) > old.left {
					w := opened(t, start.Copy())
					before := w.Disk().Copy()
					is(t, "no room", w.Append(b), api.ErrFull)
					tells(t, "no room", w, old)
					sameDisk(t, "no room", w.Disk(), before)
					continue
				}
				follows(t, "Append", start, appending(turn, 6, used, len(texts), b), func(d *disk.Disk) func() api.Errno {
					return written(t, opened(t, d), (*wal.Wal).Append, b, old, old.with(b))
				})
			}
		}
	}
}

// written is a call of a log that tells the new state then, or the old one beside an error, and is broken.
func written(t *testing.T, w *wal.Wal, call func(w *wal.Wal, b []byte) api.Errno, b []byte, old, new state) func() api.Errno {
	return func() api.Errno {
		tells(t, "ahead of the call", w, old)
		err := call(w, b)
		if err == api.OK {
			tells(t, "behind the call", w, new)
		} else {
			tells(t, "beside an error", w, old)
		}
		if w.Broken() != (err != api.OK) {
			t.Errorf("error %d, but broken %t", err, w.Broken())
		}
		return err
	}
}

// P4.3: each step of a Checkpoint, and the first error of the disk, whatever stood in the other area, from either area, up to the last turn.
func TestCheckpointSteps(t *testing.T) {
	for _, turn := range []uint64{0, 1, 6, 7, 65535, last - 1} {
		for _, texts := range [][][]byte{{nil}, {row(3, 0), row(60, 1), row(1, 2)}, {row(188, 0)}} {
			start := laidOut(t, turn, 4, modelPieces(turn, texts...)...)
			lay(t, start, firstOf(turn+1, 4), modelPieces(turn-1, row(4, 3), row(5, 4), nil, row(6, 5))...)
			lay(t, start, int((turn+1)%2), modelSealed([]byte("torn")))
			used := len(modelPieces(turn, texts...))
			old := state{turn: uint32(turn), left: 4 - used, snapshot: texts[0], list: texts[1:]}
			for _, n := range []int{0, 1, 44, 45, 140, 141, 188} {
				b := row(n, 9)
				follows(t, "Checkpoint", start, beginning(turn+1, 4, b), func(d *disk.Disk) func() api.Errno {
					return written(t, opened(t, d), (*wal.Wal).Checkpoint, b, old, old.turned(4, b))
				})
			}
			for _, n := range []int{189, 40000} {
				w := opened(t, start.Copy())
				before := w.Disk().Copy()
				is(t, "no room", w.Checkpoint(row(n, 9)), api.ErrFull)
				tells(t, "no room", w, old)
				sameDisk(t, "no room", w.Disk(), before)
			}
		}
	}
}

// P4.3: behind the last turn there is none; what has room is still appended.
func TestLastTurn(t *testing.T) {
	w := opened(t, laidOut(t, last-1, 4, modelPieces(last-1, row(3, 0))...))
	ok(t, w.Checkpoint(row(4, 0)))
	want := state{turn: last, left: 3, snapshot: row(4, 0)}
	for range 3 {
		before := w.Disk().Copy()
		is(t, "Checkpoint", w.Checkpoint(nil), api.ErrFull)
		is(t, "Checkpoint", w.Checkpoint(row(40001, 0)), api.ErrLong)
		sameDisk(t, "the last turn", w.Disk(), before)
		tells(t, "the last turn", w, want)
	}
	if w.Broken() {
		t.Error("the last turn broke the log")
	}
	ok(t, w.Append(row(5, 0)))
	want = want.with(row(5, 0))
	tells(t, "the last turn", w, want)
	w = opened(t, w.Disk())
	tells(t, "the last turn, opened", w, want)
	is(t, "Checkpoint", w.Checkpoint(nil), api.ErrFull)
}

// P4.3: as many bytes as there may be, as a transaction and as a snapshot.
func TestLongPieces(t *testing.T) {
	w := formatted(t, 1000)
	want := state{left: 999}
	for i, n := range []int{40000, 7868, 44} {
		ok(t, w.Append(row(n, i)))
		want = want.with(row(n, i))
		tells(t, "Append", w, want)
	}
	is(t, "no room", w.Append(row(8000, 0)), api.ErrFull)
	is(t, "40001 bytes", w.Append(row(40001, 0)), api.ErrLong)
	tells(t, "Open", opened(t, w.Disk()), want)
	ok(t, w.Checkpoint(row(40000, 9)))
	want = want.turned(1000, row(40000, 9))
	tells(t, "Checkpoint", w, want)
	is(t, "40001 bytes", w.Checkpoint(row(40001, 0)), api.ErrLong)
	tells(t, "Open", opened(t, w.Disk()), want)
}

// P4.3: as many transactions as an area has room for.
func TestManyTransactions(t *testing.T) {
	w := formatted(t, 1000)
	want := state{left: 999}
	for i := range 999 {
		ok(t, w.Append(row(i%45, i)))
		want = want.with(row(i%45, i))
	}
	is(t, "no room", w.Append(nil), api.ErrFull)
	tells(t, "Append", w, want)
	tells(t, "Open", opened(t, w.Disk()), want)
}

// P4.3: a broken log takes nothing any more, though its disk works again; what it tells stays. Opened anew it is not broken.
func TestBrokenLog(t *testing.T) {
	for _, call := range []func(w *wal.Wal, b []byte) api.Errno{(*wal.Wal).Append, (*wal.Wal).Checkpoint} {
		for _, power := range []bool{true, false} {
			w := formatted(t, 4)
			d := w.Disk()
			ok(t, w.Append(row(5, 0)))
			want := state{left: 2, list: [][]byte{row(5, 0)}}
			if power {
				ok(t, d.Fail(0))
				is(t, "the fault", call(w, row(6, 0)), api.ErrIo)
			} else {
				ok(t, d.Arm(0))
				is(t, "the fuse", call(w, row(6, 0)), api.ErrDead)
				ok(t, d.Crash(nil))
			}
			before := d.Copy()
			for range 2 {
				is(t, "Append", w.Append(nil), api.ErrIo)
				is(t, "Checkpoint", w.Checkpoint(nil), api.ErrIo)
				tells(t, "a broken log", w, want)
				if !w.Broken() || w.Disk() != d {
					t.Error("a broken log is whole, or has another disk")
				}
			}
			sameDisk(t, "a broken log", d, before)
			again := opened(t, d)
			tells(t, "opened anew", again, want)
			ok(t, again.Append(row(7, 0)))
			tells(t, "opened anew", again, want.with(row(7, 0)))
			if again.Broken() || !w.Broken() {
				t.Error("the log that is opened anew is broken, or the broken one is whole")
			}
		}
	}
}

// P4.4: of a nil log nothing, 0, false, nil.
func TestNilLog(t *testing.T) {
	var w *wal.Wal
	tells(t, "a nil log", w, state{})
	if w.Broken() || w.Disk() != nil || w.All() == nil {
		t.Error("a nil log is broken, or has a disk, or no iterator")
	}
}

// P4.4: how many sectors a piece has, for each number of bytes.
func TestSectors(t *testing.T) {
	for _, n := range []int{-1, -4, -48, 40001, 40012, 1 << 32, math.MinInt, math.MaxInt} {
		if wal.Sectors(n) != 0 {
			t.Errorf("Sectors(%d): %d, not 0", n, wal.Sectors(n))
		}
	}
	for _, c := range [][2]int{{0, 1}, {1, 1}, {44, 1}, {45, 2}, {92, 2}, {93, 3}, {140, 3}, {141, 4}, {39980, 833}, {39981, 834}, {40000, 834}} {
		if wal.Sectors(c[0]) != c[1] {
			t.Errorf("Sectors(%d): %d, not %d", c[0], wal.Sectors(c[0]), c[1])
		}
	}
	for n := range 40001 {
		// The 48 bytes of each part are filled, and the last part has one byte at least.
		if s := wal.Sectors(n); s*48 < n+4 || (s-1)*48 >= n+4 {
			t.Errorf("Sectors(%d): %d", n, s)
		}
	}
}

// P4.4: Left is what an Append may have.
func TestLeftIsTheRoom(t *testing.T) {
	for area := 4; area < 9; area++ {
		for n := range area {
			w := formatted(t, area)
			for range n {
				if w.Left() > 0 {
					ok(t, w.Append(row(44, n)))
				}
			}
			left := w.Left()
			is(t, "more than is left", w.Append(row(max(0, 48*left-3), 0)), api.ErrFull)
			if left > 0 {
				ok(t, w.Append(row(48*left-4, 0)))
			}
			if w.Left() != 0 {
				t.Errorf("%d left", w.Left())
			}
			is(t, "none left", w.Append(nil), api.ErrFull)
		}
	}
}

// P4.4: All tells the transactions that there were when it was called, may be left early, and gone through again.
func TestAllTellsWhatThereWas(t *testing.T) {
	w := formatted(t, 8)
	collect := func(all func(yield func(int, []byte) bool)) [][]byte {
		var list [][]byte
		for _, b := range all {
			list = append(list, b)
		}
		return list
	}
	same := func(what string, all func(yield func(int, []byte) bool), want ...[]byte) {
		t.Helper()
		for range 2 {
			if got := collect(all); !slices.EqualFunc(got, want, bytes.Equal) {
				t.Errorf("%s: %v, not %v", what, got, want)
			}
		}
	}
	none := w.All()
	ok(t, w.Append(row(1, 0)), w.Append(row(2, 0)), w.Append(row(3, 0)))
	three := w.All()
	ok(t, w.Append(row(4, 0)))
	four := w.All()
	same("none", none)
	same("three", three, row(1, 0), row(2, 0), row(3, 0))
	for i, b := range four {
		if i == 2 {
			break
		}
		ok(t, w.Append(nil))
		if !bytes.Equal(b, row(1, 0)) {
			t.Error("another first one")
		}
	}
	same("four", four, row(1, 0), row(2, 0), row(3, 0), row(4, 0))
	five := w.All()
	ok(t, w.Checkpoint(row(5, 0)))
	after := w.All()
	ok(t, w.Append(row(6, 0)), w.Append(row(7, 0)))
	same("none", none)
	same("three, behind a Checkpoint", three, row(1, 0), row(2, 0), row(3, 0))
	same("four, behind a Checkpoint", four, row(1, 0), row(2, 0), row(3, 0), row(4, 0))
	same("five, behind a Checkpoint", five, row(1, 0), row(2, 0), row(3, 0), row(4, 0), nil)
	same("behind a Checkpoint", after)
	same("now", w.All(), row(6, 0), row(7, 0))
}

// P4.4: what is told is in memory of its own, and what is handed in is neither changed nor kept, the room behind its end neither.
func TestMemoryOfItsOwn(t *testing.T) {
	w := formatted(t, 6)
	handed := func(n, seed int, call func(b []byte) api.Errno) {
		t.Helper()
		whole := append(row(n, seed), row(100, 77)...)
		ok(t, call(whole[:n]))
		if !bytes.Equal(whole, append(row(n, seed), row(100, 77)...)) {
			t.Error("what was handed in was changed, or the room behind it")
		}
		clear(whole)
	}
	handed(50, 1, w.Checkpoint)
	handed(44, 2, w.Append)
	handed(60, 3, w.Append)
	want := state{turn: 1, left: 1, snapshot: row(50, 1), list: [][]byte{row(44, 2), row(60, 3)}}
	for range 2 {
		for range 2 {
			tells(t, "what was changed", w, want)
			for _, b := range append(told(t, w).list, w.Snapshot()) {
				clear(b)
				b = append(b, row(200, 5)...)
				clear(b[:cap(b)])
			}
			for _, b := range w.All() {
				clear(b[:cap(b)])
			}
			clear(w.Snapshot())
		}
		w = opened(t, w.Disk())
	}
	ok(t, w.Append(row(2, 0)))
	want = want.with(row(2, 0))
	tells(t, "behind all of it", w, want)
	tells(t, "opened", opened(t, w.Disk()), want)
}

// P4.4: two logs have nothing to do with one another.
func TestTwoLogs(t *testing.T) {
	one, other := formatted(t, 4), formatted(t, 5)
	ok(t, one.Append(row(3, 0)), other.Checkpoint(row(4, 0)), one.Append(row(5, 0)), other.Append(row(6, 0)))
	ok(t, one.Disk().Fail(0))
	is(t, "Append", one.Append(nil), api.ErrIo)
	tells(t, "one", one, state{left: 1, list: [][]byte{row(3, 0), row(5, 0)}})
	tells(t, "the other", other, state{turn: 1, left: 3, snapshot: row(4, 0), list: [][]byte{row(6, 0)}})
	if other.Broken() || other.Append(nil) != api.OK {
		t.Error("the other one is broken")
	}
}
