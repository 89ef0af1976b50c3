package disk_test

import (
	"slices"
	"testing"

	"confluence/api"
	"confluence/disk"
)

// What became of a write of the model.
const (
	waiting = iota
	isSafe
	lost
)

// done is a write that was done.
type done struct {
	sector int
	block  api.Block
	state  int
}

// model is a disk as the document words it: all writes that were ever done, none ever dropped.
type model struct {
	sectors     int
	writes      []done
	fuse, fault int
	dead        bool
	ops         int
}

// count is the number behind one that was done; -1, which is none, stays.
func count(n int) int {
	if n < 0 {
		return -1
	}
	return n - 1
}

// goes tells what becomes of an operation, and counts it.
func (m *model) goes(i int, change bool) api.Errno {
	switch {
	case m.dead:
		return api.ErrDead
	case i < 0 || i >= m.sectors:
		return api.ErrArg
	case m.fault == 0:
		m.fault = -1
		return api.ErrIo
	case change && m.fuse == 0:
		m.dead = true
		return api.ErrDead
	}
	m.ops++
	m.fault = count(m.fault)
	if change {
		m.fuse = count(m.fuse)
	}
	return api.OK
}

// held is the block of the last write to a sector that counts, among those that wait too, or among those that are safe alone.
func (m *model) held(i int, waitingToo bool) api.Block {
	for _, w := range slices.Backward(m.writes) {
		if w.sector == i && (w.state == isSafe || w.state == waiting && waitingToo) {
			return w.block
		}
	}
	return api.Block{}
}

// pending are the sectors of the writes that wait.
func (m *model) pending() []int {
	var list []int
	for _, w := range m.writes {
		if w.state == waiting {
			list = append(list, w.sector)
		}
	}
	return list
}

// end ends the waiting of all writes.
func (m *model) end(lives func(i int) bool) {
	i := 0
	for n, w := range m.writes {
		if w.state != waiting {
			continue
		}
		m.writes[n].state = lost
		if lives(i) {
			m.writes[n].state = isSafe
		}
		i++
	}
}

// pair is a disk, and what it should be; text tells what was done with it.
type pair struct {
	t    *testing.T
	d    *disk.Disk
	m    model
	text []string
	next int
}

// newPair is a pair of so many sectors.
func newPair(t *testing.T, sectors int) *pair {
	return &pair{t: t, d: fresh(t, sectors), m: model{sectors: sectors, fuse: -1, fault: -1}}
}

// step is a thing that may be done with a pair.
type step struct {
	name string
	do   func(p *pair)
}

// same fails the test if an error is not the model's.
func (p *pair) same(got, want api.Errno) {
	p.t.Helper()
	if got != want {
		p.t.Fatalf("%q: error %d, not %d", p.text, got, want)
	}
}

// read reads a sector.
func (p *pair) read(i int) {
	b, err := p.d.Read(i)
	want := p.m.goes(i, false)
	p.same(err, want)
	held := api.Block{}
	if want == api.OK {
		held = p.m.held(i, true)
	}
	if b != held {
		p.t.Fatalf("%q: Read(%d): %d.., not %d..", p.text, i, b[0], held[0])
	}
}

// write writes a block to a sector that none was written to it yet.
func (p *pair) write(i int) {
	p.next++
	b := block(p.next)
	want := p.m.goes(i, true)
	p.same(p.d.Write(i, b), want)
	if want == api.OK {
		p.m.writes = append(p.m.writes, done{i, b, waiting})
	}
}

// sync syncs.
func (p *pair) sync() {
	want := p.m.goes(0, true)
	p.same(p.d.Sync(), want)
	if want == api.OK {
		p.m.end(func(int) bool { return true })
	}
}

// set sets the fuse or the fault.
func (p *pair) set(call func(n int) api.Errno, of *int, n int) {
	if p.m.dead {
		p.same(call(n), api.ErrDead)
		return
	}
	p.same(call(n), api.OK)
	*of = max(n, -1)
}

// crash crashes.
func (p *pair) crash(keep []bool) {
	p.same(p.d.Crash(keep), api.OK)
	p.m.end(func(i int) bool { return i < len(keep) && keep[i] })
	p.m.dead, p.m.fuse, p.m.fault = false, -1, -1
}

// swap goes on with a copy, and does this and that with what was copied.
func (p *pair) swap() {
	old := p.d
	p.d = old.Copy()
	for i := range p.m.sectors {
		old.Write(i, block(250))
	}
	old.Crash([]bool{true, true})
	old.Write(0, block(251))
	old.Sync()
	old.Arm(0)
	old.Sync()
}

// look fails the test if something can be told that is not as in the model.
func (p *pair) look() {
	p.t.Helper()
	if p.d.Len() != p.m.sectors || p.d.Dead() != p.m.dead || p.d.Ops() != p.m.ops || !slices.Equal(p.d.Pending(), p.m.pending()) {
		p.t.Fatalf("%q: Len %d, Dead %t, Ops %d, Pending %d", p.text, p.d.Len(), p.d.Dead(), p.d.Ops(), p.d.Pending())
	}
	for _, all := range []bool{true, false} {
		c := p.d.Copy()
		c.Crash(slices.Repeat([]bool{all}, len(p.m.pending())))
		for i := range p.m.sectors {
			if b, err := c.Read(i); err != api.OK || b != p.m.held(i, all) {
				p.t.Fatalf("%q: sector %d, %t: %d.., error %d", p.text, i, all, b[0], err)
			}
		}
	}
}

// steps are the things that are done with a pair, on few sectors, with small numbers.
func steps() []step {
	return []step{
		{"Read(0)", func(p *pair) { p.read(0) }},
		{"Read(2)", func(p *pair) { p.read(2) }},
		{"Write(0)", func(p *pair) { p.write(0) }},
		{"Write(1)", func(p *pair) { p.write(1) }},
		{"Write(-1)", func(p *pair) { p.write(-1) }},
		{"Sync", func(p *pair) { p.sync() }},
		{"Arm(-1)", func(p *pair) { p.set(p.d.Arm, &p.m.fuse, -1) }},
		{"Arm(0)", func(p *pair) { p.set(p.d.Arm, &p.m.fuse, 0) }},
		{"Arm(1)", func(p *pair) { p.set(p.d.Arm, &p.m.fuse, 1) }},
		{"Fail(-7)", func(p *pair) { p.set(p.d.Fail, &p.m.fault, -7) }},
		{"Fail(0)", func(p *pair) { p.set(p.d.Fail, &p.m.fault, 0) }},
		{"Fail(1)", func(p *pair) { p.set(p.d.Fail, &p.m.fault, 1) }},
		{"Crash()", func(p *pair) { p.crash(nil) }},
		{"Crash(t)", func(p *pair) { p.crash([]bool{true}) }},
		{"Crash(ftft)", func(p *pair) { p.crash([]bool{false, true, false, true}) }},
		{"Copy", func(p *pair) { p.swap() }},
	}
}

// take does a step.
func (p *pair) take(s step) {
	p.text = append(p.text, s.name)
	s.do(p)
}

// P2.1 to P2.7: every short script, on a disk of two sectors.
func TestEveryShortScript(t *testing.T) {
	const length = 4
	list := steps()
	total := 1
	for range length {
		total *= len(list)
	}
	for script := range total {
		p := newPair(t, 2)
		for rest := script; len(p.text) < length; rest /= len(list) {
			p.take(list[rest%len(list)])
		}
		p.look()
	}
}

// P2.1 to P2.7: long scripts, each of which goes its own way through the steps.
func TestLongScripts(t *testing.T) {
	list := steps()
	for sectors := 1; sectors <= 5; sectors++ {
		for seed := range uint32(40) {
			p := newPair(t, sectors)
			for at := seed; len(p.text) < 200; {
				at = at*1664525 + 1013904223
				n := int(at >> 16)
				switch at >> 30 {
				case 0:
					p.text = append(p.text, "a write")
					p.write(n % sectors)
				case 1:
					p.text = append(p.text, "a read")
					p.read(n % sectors)
				default:
					p.take(list[n%len(list)])
				}
				p.look()
			}
		}
	}
}
