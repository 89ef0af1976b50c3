package wal_test

import (
	"bytes"
	"fmt"
	"slices"
	"testing"

	"confluence/api"
	"confluence/disk"
	"confluence/sha"
	"confluence/wal"
)

// The model says once more what stands in the sectors, and what is done with the disk step by step; of the program it asks lower layers alone.

// laid is a number's digits to the base 256, so many of them, the one that weighs most first.
func laid(x uint64, width int) []byte {
	row := make([]byte, width)
	for i := range row {
		row[width-1-i] = byte(x % 256)
		x /= 256
	}
	return row
}

// joined is a row of rows.
func joined(rows ...[]byte) []byte {
	return slices.Concat(rows...)
}

// modelSealed is the sector with these 60 bytes; fewer are filled up by noughts.
func modelSealed(others []byte) api.Block {
	var rest [60]byte
	copy(rest[:], others)
	digest := sha.Sum(rest[:])
	var s api.Block
	copy(s[:4], digest[:])
	copy(s[4:], rest[:])
	return s
}

// modelHead is a head, be its area one that may be or not.
func modelHead(turn, area uint64) api.Block {
	return modelSealed(joined([]byte("riverlog"), laid(turn, 4), laid(area, 4)))
}

// modelSector is a sector of a piece.
func modelSector(turn, number uint64, i, parts int, bytes []byte) api.Block {
	return modelSealed(joined(laid(turn, 4), laid(number, 4), laid(uint64(i), 2), laid(uint64(parts), 2), bytes))
}

// modelPiece are the sectors of a piece.
func modelPiece(turn, number uint64, b []byte) []api.Block {
	return modelCut(turn, number, joined(laid(uint64(len(b)), 4), b))
}

// modelCut are the sectors of a row that is cut into parts.
func modelCut(turn, number uint64, row []byte) []api.Block {
	for len(row)%48 != 0 {
		row = append(row, 0)
	}
	parts := len(row) / 48
	var list []api.Block
	for i := range parts {
		list = append(list, modelSector(turn, number, i, parts, row[48*i:48*i+48]))
	}
	return list
}

// modelPieces are the sectors of pieces that lie one behind the other, from the snapshot on.
func modelPieces(turn uint64, texts ...[]byte) []api.Block {
	var list []api.Block
	for number, b := range texts {
		list = append(list, modelPiece(turn, uint64(number), b)...)
	}
	return list
}

// op is an operation of a disk.
type op func(d *disk.Disk) api.Errno

func syncing(d *disk.Disk) api.Errno {
	return d.Sync()
}

// reading reads sectors; writing writes some from a place on.
func reading(from, n int) []op {
	var list []op
	for i := range n {
		list = append(list, func(d *disk.Disk) api.Errno {
			_, err := d.Read(from + i)
			return err
		})
	}
	return list
}

func writing(from int, sectors ...api.Block) []op {
	var list []op
	for i, s := range sectors {
		list = append(list, func(d *disk.Disk) api.Errno { return d.Write(from+i, s) })
	}
	return list
}

// firstOf is the first sector of a turn's area.
func firstOf(turn uint64, area int) int {
	if turn%2 == 1 {
		return 2 + area
	}
	return 2
}

// beginning is what brings a turn about.
func beginning(turn uint64, area int, b []byte) []op {
	return slices.Concat(
		writing(firstOf(turn, area), modelPiece(turn, 0, b)...), []op{syncing},
		writing(int(turn%2), modelHead(turn, uint64(area))), []op{syncing})
}

// formatting, opening, appending are what the calls do, in their order.
func formatting(area int) []op {
	return slices.Concat(writing(0, make([]api.Block, 2+2*area)...), []op{syncing}, beginning(0, area, nil))
}

// opening reads the log of a turn; noughts go to sectors that have to be cleared.
func opening(turn uint64, area int, cleared []int, sync bool) []op {
	list := slices.Concat(reading(0, 2), reading(firstOf(turn, area), area))
	for _, i := range cleared {
		list = append(list, writing(i, api.Block{})...)
	}
	if sync {
		list = append(list, syncing)
	}
	return list
}

func appending(turn uint64, area, used, number int, b []byte) []op {
	return append(writing(firstOf(turn, area)+used, modelPiece(turn, uint64(number), b)...), syncing)
}

// doAll does operations up to the first that tells an error.
func doAll(d *disk.Disk, ops []op) api.Errno {
	for _, do := range ops {
		if err := do(d); err != api.OK {
			return err
		}
	}
	return api.OK
}

// contents are the sectors that a disk has, when of what waits this lives on.
func contents(t *testing.T, d *disk.Disk, keep []bool) []api.Block {
	t.Helper()
	c := d.Copy()
	ok(t, c.Crash(keep))
	var list []api.Block
	for i := range c.Len() {
		s, err := c.Read(i)
		ok(t, err)
		list = append(list, s)
	}
	return list
}

// sameDisk fails the test if two disks are not the same, by all that can be told of them.
func sameDisk(t *testing.T, what string, got, want *disk.Disk) {
	t.Helper()
	if got.Dead() != want.Dead() || got.Ops() != want.Ops() || !slices.Equal(got.Pending(), want.Pending()) {
		t.Errorf("%s: dead %t, %d operations, %d wait; not %t, %d, %d", what, got.Dead(), got.Ops(), got.Pending(), want.Dead(), want.Ops(), want.Pending())
		return
	}
	n := len(want.Pending())
	keeps := [][]bool{nil, slices.Repeat([]bool{true}, n)}
	for i := range min(n, 30) {
		keeps = append(keeps, append(make([]bool, i), true))
	}
	for _, keep := range keeps {
		if !slices.Equal(contents(t, got, keep), contents(t, want, keep)) {
			t.Errorf("%s: other sectors, when %t lives on", what, keep)
			return
		}
	}
}

// follows fails the test if a call does not do just these operations, or, with a fuse or a fault, those ahead of the one that tells an error.
func follows(t *testing.T, what string, start *disk.Disk, ops []op, ready func(d *disk.Disk) func() api.Errno) {
	t.Helper()
	for fuse := -1; fuse <= len(ops); fuse++ {
		for fault := -1; fault <= len(ops); fault++ {
			got := start.Copy()
			call := ready(got)
			want := got.Copy()
			ok(t, got.Arm(fuse), got.Fail(fault), want.Arm(fuse), want.Fail(fault))
			is(t, what, call(), doAll(want, ops))
			sameDisk(t, what, got, want)
			if t.Failed() {
				t.Fatalf("%s: with the fuse %d and the fault %d", what, fuse, fault)
			}
		}
	}
}

// state is what a log tells.
type state struct {
	turn     uint32
	left     int
	snapshot []byte
	list     [][]byte
}

// String is short: of texts the beginning, and how long they are.
func (s state) String() string {
	short := func(b []byte) string { return fmt.Sprintf("%d bytes % x", len(b), b[:min(len(b), 6)]) }
	row := fmt.Sprintf("turn %d, %d left, snapshot of %s, %d transactions", s.turn, s.left, short(s.snapshot), len(s.list))
	for _, b := range s.list[:min(len(s.list), 6)] {
		row += "; " + short(b)
	}
	return row
}

// with is the state behind an Append, turned the one behind a Checkpoint, in areas of so many sectors.
func (s state) with(b []byte) state {
	s.left -= (4 + len(b) + 47) / 48
	s.list = append(slices.Clone(s.list), b)
	return s
}

func (s state) turned(area int, b []byte) state {
	return state{s.turn + 1, area - (4+len(b)+47)/48, b, nil}
}

// told is what a log tells; the numbers of its transactions have to be 1, 2 and so on.
func told(t *testing.T, w *wal.Wal) state {
	t.Helper()
	s := state{turn: w.Turn(), left: w.Left(), snapshot: w.Snapshot()}
	for i, b := range w.All() {
		s.list = append(s.list, b)
		if i != len(s.list) {
			t.Errorf("transaction %d has the number %d", len(s.list), i)
		}
	}
	if w.Len() != len(s.list) {
		t.Errorf("Len %d, but %d transactions", w.Len(), len(s.list))
	}
	return s
}

// equal tells whether two states are the same.
func (s state) equal(other state) bool {
	return s.turn == other.turn && s.left == other.left && bytes.Equal(s.snapshot, other.snapshot) && slices.EqualFunc(s.list, other.list, bytes.Equal)
}

// tells fails the test if a log tells something else.
func tells(t *testing.T, what string, w *wal.Wal, want state) {
	t.Helper()
	if got := told(t, w); !got.equal(want) {
		t.Errorf("%s: %v, not %v", what, got, want)
	}
}
