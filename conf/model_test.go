package conf_test

import (
	"bytes"
	"math/rand"
	"slices"
	"testing"

	"confluence/api"
	"confluence/conf"
)

// The model says the chapter's words once more: members that may be are one of 31 sets, each a number of five bits, of which the lowest one is member 1; whatever is none of those lists may not be.

// full is the set of all servers.
const full = 1<<5 - 1

// listed are the members of a set, rising.
func listed(set int) []int {
	var list []int
	for i, bit := range []int{1, 2, 4, 8, 16} {
		if set&bit != 0 {
			list = append(list, i+1)
		}
	}
	return list
}

// of are members.
func of(l ...int) api.Conf {
	return api.Conf{Members: l}
}

// ofSet are the members of a set.
func ofSet(set int) api.Conf {
	return of(listed(set)...)
}

// bit is the set of one server alone: nothing, if a number is none.
func bit(n int) int {
	switch n {
	case 1, 2, 3, 4, 5:
		return 1 << (n - 1)
	}
	return 0
}

// modelSet is the set whose members a list says: 0, if they may not be.
func modelSet(c api.Conf) int {
	for set := 1; set <= full; set++ {
		if slices.Equal(listed(set), c.Members) {
			return set
		}
	}
	return 0
}

// size is how many are in a set.
func size(set int) int {
	return len(listed(set))
}

// modelMajority is what Majority is to answer.
func modelMajority(set int, numbers []int) bool {
	in := 0
	for _, n := range numbers {
		in |= bit(n)
	}
	return size(set&in) > size(set)-size(set&in)
}

// modelAgreed is what Agreed is to answer: index by index it asks who has it.
func modelAgreed(set int, l []api.Match) uint64 {
	most := uint64(0)
	for _, try := range l {
		has := 0
		for _, m := range l {
			if m.Index >= try.Index {
				has |= bit(m.Member)
			}
		}
		if 2*size(set&has) > size(set) && try.Index > most {
			most = try.Index
		}
	}
	return most
}

// modelAdd is what Add is to answer.
func modelAdd(set, member int) (int, api.Errno) {
	switch {
	case set == 0:
		return 0, api.ErrConf
	case bit(member) == 0:
		return 0, api.ErrArg
	case set&bit(member) != 0:
		return 0, api.ErrThere
	}
	return set + bit(member), api.OK
}

// modelDrop is what Drop is to answer.
func modelDrop(set, member int) (int, api.Errno) {
	switch {
	case set == 0:
		return 0, api.ErrConf
	case set&bit(member) == 0:
		return 0, api.ErrNone
	case set == bit(member):
		return 0, api.ErrConf
	}
	return set - bit(member), api.OK
}

// modelStep is what Step is to answer.
func modelStep(a, b int) api.Errno {
	switch {
	case a == 0 || b == 0:
		return api.ErrConf
	case size(a^b) > 1:
		return api.ErrStep
	}
	return api.OK
}

// modelBytes are the bytes of numbers, whatever they are.
func modelBytes(numbers ...int) []byte {
	row := []byte{byte(len(numbers))}
	for _, n := range numbers {
		row = append(row, byte(n))
	}
	return row
}

// modelDecode is what Decode is to answer.
func modelDecode(b []byte) (int, api.Errno) {
	for set := 1; set <= full; set++ {
		if bytes.Equal(b, modelBytes(listed(set)...)) {
			return set, api.OK
		}
	}
	if len(b) == 0 || len(b) < 1+int(b[0]) {
		return 0, api.ErrShort
	}
	return 0, api.ErrConf
}

// drawn are numbers of chance, some of which are servers.
func drawn(r *rand.Rand, most int) []int {
	var list []int
	for range r.Intn(most + 1) {
		if r.Intn(4) == 0 {
			list = append(list, strange[r.Intn(len(strange))])
		} else {
			list = append(list, 1+r.Intn(6))
		}
	}
	return list
}

// P14.1 to P14.4: lists of chance, long ones among them.
func TestChance(t *testing.T) {
	r := rand.New(rand.NewSource(14))
	for range 4000 {
		c := ofSet(r.Intn(full + 1))
		if r.Intn(4) == 0 {
			c = of(drawn(r, 8)...)
		}
		numbers := drawn(r, 40)
		asMajority(t, c, numbers)
		var l []api.Match
		for _, n := range numbers {
			l = append(l, api.Match{Member: n, Index: []uint64{0, r.Uint64(), uint64(r.Intn(4)), 1<<64 - 1}[r.Intn(4)]})
		}
		asAgreed(t, c, l)
		asModel(t, c)
		row := make([]byte, r.Intn(300))
		r.Read(row)
		asDecode(t, row)
	}
}

// P14.1 to P14.4: calls come to an end, and are right, at lists that are long.
func TestLongLists(t *testing.T) {
	long := slices.Repeat([]int{5, 9, 2}, 100000)
	rising := make([]int, 300000)
	for i := range rising {
		rising[i] = i + 1
	}
	for _, l := range [][]int{long, rising, slices.Repeat([]int{1}, 300000)} {
		c := of(l...)
		if conf.Check(c) != api.ErrConf || conf.Has(c, 2) || conf.Majority(c, l) || conf.Agreed(c, []api.Match{{Member: 1, Index: 1}}) != 0 {
			t.Error("a long list is members that may be")
		}
		if !conf.Same(c, of(slices.Clone(l)...)) || conf.Same(c, of(l[1:]...)) {
			t.Error("Same of long lists")
		}
	}
	for set := 1; set <= full; set++ {
		asMajority(t, ofSet(set), long)
		var l []api.Match
		for i, n := range long {
			l = append(l, api.Match{Member: n, Index: uint64(i)})
		}
		l = append(l, api.Match{Member: 1, Index: 7}, api.Match{Member: 3, Index: 1 << 40})
		if got, want := conf.Agreed(ofSet(set), l), longest(set, l); got != want {
			t.Errorf("Agreed of %v and a long list: %d, not %d", listed(set), got, want)
		}
	}
	b := append(modelBytes(1, 2), make([]byte, 1<<20)...)
	asDecode(t, b)
}

// longest is what Agreed is to answer of a list whose indices rise.
func longest(set int, l []api.Match) uint64 {
	last := map[int]uint64{}
	for _, m := range l {
		last[m.Member] = m.Index
	}
	var few []api.Match
	for n, index := range last {
		few = append(few, api.Match{Member: n, Index: index})
	}
	return modelAgreed(set, few)
}
