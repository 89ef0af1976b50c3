package log_test

import (
	"math/rand"
	"slices"
	"strconv"
	"testing"

	"confluence/api"
	"confluence/log"
)

// node is a server's log, and all entries that it ever kept there, from the first index on.
type node struct {
	log  api.Log
	full []api.Entry
}

// told is what a leader has told: entries, and the place ahead of them.
type told struct {
	prev    api.At
	entries []api.Entry
}

// group is servers of which one leads at a time, and whatever was told, which may come late and again.
type group struct {
	nodes []node
	lead  int
	term  uint64
	said  []told
	met   map[string]int
}

// settled tells whether what was told does not speak against what a node need not keep: a Splice does not look at that.
func (n node) settled(m told) bool {
	if m.prev.Index >= n.log.Base.Index {
		return true
	}
	if m.prev.Index > 0 && n.full[m.prev.Index-1].Term != m.prev.Term {
		return false
	}
	for i, e := range m.entries {
		if index := m.prev.Index + uint64(i); index < n.log.Base.Index && n.full[index].Term != e.Term {
			return false
		}
	}
	return true
}

// take puts into full what was told, as far as it is unlike.
func (n *node) take(m told) {
	for i, e := range m.entries {
		index := int(m.prev.Index) + i
		if index >= len(n.full) || n.full[index].Term != e.Term {
			n.full = append(n.full[:index:index], m.entries[i:]...)
			return
		}
	}
}

// step is one of the things that happen: a leader begins, puts an entry behind, tells some; something that was told comes to a server; one lets go of what it need not keep.
func (g *group) step(r *rand.Rand) {
	who := r.Intn(len(g.nodes))
	n := &g.nodes[who]
	switch x := r.Intn(80); {
	case x < 2:
		g.lead = who
		g.term += uint64(1 + r.Intn(2))
	case x < 16:
		g.put(r)
	case x < 40:
		g.tell(r, n)
	case x < 78:
		if m := g.said[max(0, len(g.said)-1-r.Intn(pick(r, 1, 4, 30))):]; len(m) > 0 && who != g.lead {
			g.splice(n, m[0])
		}
	default:
		n.compact(n.log.Base.Index + uint64(r.Intn(len(n.log.Entries)+1)))
	}
}

// compact lets a node go of what it has up to an index.
func (n *node) compact(index uint64) {
	n.log, _ = log.Compact(n.log, index)
}

// put puts an entry like no other one behind the leader's log.
func (g *group) put(r *rand.Rand) {
	n := &g.nodes[g.lead]
	g.met["put"]++
	e := api.Entry{Term: g.term, Kind: api.EntCommand, Data: []byte(strconv.Itoa(g.met["put"]))}
	if l, _, err := log.Append(n.log, e); err == api.OK {
		n.log, n.full = l, append(n.full, e)
		return
	}
	n.compact(log.Last(n.log).Index - uint64(r.Intn(12)))
}

// tell has the leader tell some of its entries, mostly about the end of another node's log; whoever lacks what the leader no longer keeps is given the leader's log.
func (g *group) tell(r *rand.Rand, n *node) {
	lead := g.nodes[g.lead]
	index := lead.log.Base.Index + 1 + uint64(r.Intn(len(lead.log.Entries)+1))
	if r.Intn(4) > 0 {
		index = min(index, log.Last(n.log).Index+2-uint64(r.Intn(3)))
	}
	if index <= lead.log.Base.Index {
		n.full = slices.Clone(lead.full)
		n.log = lead.log
		return
	}
	prev, entries, err := log.From(lead.log, index, r.Intn(8))
	if err == api.OK {
		g.said = append(g.said, told{prev, entries})
	}
}

// splice brings to a node what was told.
func (g *group) splice(n *node, m told) {
	if !n.settled(m) {
		g.met["unsettled"]++
		return
	}
	l, _, err := log.Splice(n.log, m.prev, m.entries)
	g.met["error "+strconv.Itoa(int(err))]++
	if err != api.OK {
		return
	}
	if len(l.Entries) < len(n.log.Entries) {
		g.met["shorter"]++
	}
	if m.prev.Index < l.Base.Index && !log.Same(l, n.log) {
		g.met["ahead of Base"]++
	}
	n.take(m)
	n.log = l
}

// holds fails the test if a node's log is not what it has kept.
func (n node) holds(t *testing.T) {
	t.Helper()
	base := n.log.Base.Index
	if base > 0 && n.full[base-1].Term != n.log.Base.Term || !alike(n.log.Entries, n.full[base:]) {
		t.Fatalf("a log %v is not the end of %v", n.log, n.full)
	}
}

// agree fails the test if two logs have the same place, and unlike entries ahead of it.
func agree(t *testing.T, a, b api.Log) {
	t.Helper()
	from := max(a.Base.Index, b.Base.Index) + 1
	for index := min(log.Last(a).Index, log.Last(b).Index); index >= from; index-- {
		term, _ := log.Term(a, index)
		if !log.Has(b, at(index, term)) {
			continue
		}
		n := int(index - from + 1)
		_, ours, _ := log.From(a, from, n)
		_, theirs, _ := log.From(b, from, n)
		if !alike(ours, theirs) {
			t.Fatalf("%v and %v have %d, and are unlike ahead of it", a, b, index)
		}
		return
	}
}

// P12.7: logs that were made by Append of one leader a Term, by Splice of what these told, late and again, and by Compact: those that have the same place have the same entries ahead of it.
func TestLogsAgree(t *testing.T) {
	r := rand.New(rand.NewSource(127))
	met := map[string]int{}
	for range 150 {
		g := group{nodes: make([]node, 2+r.Intn(4)), term: 1, met: met}
		for range 600 {
			g.step(r)
			for i, a := range g.nodes {
				a.holds(t)
				for _, b := range g.nodes[:i] {
					agree(t, a.log, b.log)
				}
			}
		}
	}
	for _, what := range []string{"error 0", "error 4", "error 6", "shorter", "ahead of Base"} {
		if met[what] < 100 {
			t.Errorf("%s: met %d times only", what, met[what])
		}
	}
}
