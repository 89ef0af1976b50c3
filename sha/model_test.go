package sha_test

import (
	"math/bits"
	"math/rand"
	"testing"

	"confluence/sha"
)

// The model says the chapter's words once more, by digits to the base 2, one by one: no shift, no table and no digest's library is shared with the program.

// wide is a word's bits, the lowest one first.
type wide [32]int

func bitsOf(x uint32) wide {
	var w wide
	for i := range w {
		w[i] = int(x % 2)
		x /= 2
	}
	return w
}

func (w wide) number() uint32 {
	x := uint32(0)
	for i := len(w) - 1; i >= 0; i-- {
		x = 2*x + uint32(w[i])
	}
	return x
}

// modelTurned has the n lowest bits at its top; modelMoved has noughts there.
func modelTurned(x uint32, n int) uint32 {
	w := bitsOf(x)
	return wide(append(append([]int{}, w[n:]...), w[:n]...)).number()
}

func modelMoved(x uint32, n int) uint32 {
	w := bitsOf(x)
	return wide(append(append([]int{}, w[n:]...), make([]int, n)...)).number()
}

// bitwise is the word that has at each place what rule says of how many 1 the words have there.
func bitwise(rule func(ones int) bool, list ...uint32) uint32 {
	var w wide
	for i := range w {
		ones := 0
		for _, x := range list {
			ones += bitsOf(x)[i]
		}
		if rule(ones) {
			w[i] = 1
		}
	}
	return w.number()
}

// just is the rule of xor: just one, or all of three.
func just(ones int) bool { return ones == 1 || ones == 3 }

func modelChosen(e, f, g uint32) uint32 {
	var w wide
	for i, one := range bitsOf(e) {
		if one == 1 {
			w[i] = bitsOf(f)[i]
		} else {
			w[i] = bitsOf(g)[i]
		}
	}
	return w.number()
}

// modulo is a sum modulo 2^32.
func modulo(list ...uint32) uint32 {
	all := uint64(0)
	for _, x := range list {
		all += uint64(x)
	}
	return uint32(all % 4294967296)
}

// primes are the first n.
func primes(n int) []uint64 {
	var list []uint64
next:
	for p := uint64(2); len(list) < n; p++ {
		for _, q := range list {
			if p%q == 0 {
				continue next
			}
		}
		list = append(list, p)
	}
	return list
}

// wholeRoot is the whole part of 2^32 times p's square root (of power 2), or its cube root (3): the greatest x whose power is not above p times 2^64, or 2^96.
func wholeRoot(p uint64, power int) uint64 {
	x := uint64(0)
	for step := uint64(1) << 36; step > 0; step /= 2 {
		high, low := bits.Mul64(x+step, x+step)
		above := p
		if power == 3 {
			over, rest := bits.Mul64(low, x+step)
			high, low = high*(x+step)+over, rest
			above = p * 4294967296
		}
		if high < above || high == above && low == 0 {
			x += step
		}
	}
	return x
}

func modelConstants() [64]uint32 {
	var list [64]uint32
	for i, p := range primes(64) {
		list[i] = uint32(wholeRoot(p, 3) % 4294967296)
	}
	return list
}

func modelStart() [8]uint32 {
	var list [8]uint32
	for i, p := range primes(8) {
		list[i] = uint32(wholeRoot(p, 2) % 4294967296)
	}
	return list
}

func modelDrawn(b [64]byte) []uint32 {
	var list []uint32
	for i := 0; i < 64; i += 4 {
		list = append(list, modulo(uint32(b[i])*16777216, uint32(b[i+1])*65536, uint32(b[i+2])*256, uint32(b[i+3])))
	}
	for i := 16; i < 64; i++ {
		p, q := list[i-2], list[i-15]
		list = append(list, modulo(
			bitwise(just, modelTurned(p, 17), modelTurned(p, 19), modelMoved(p, 10)),
			list[i-7],
			bitwise(just, modelTurned(q, 7), modelTurned(q, 18), modelMoved(q, 3)),
			list[i-16]))
	}
	return list
}

func modelBlock(constants [64]uint32, h [8]uint32, block [64]byte) [8]uint32 {
	a, b, c, d, e, f, g, k := h[0], h[1], h[2], h[3], h[4], h[5], h[6], h[7]
	for i, w := range modelDrawn(block) {
		x := modulo(k, bitwise(just, modelTurned(e, 6), modelTurned(e, 11), modelTurned(e, 25)), modelChosen(e, f, g), constants[i], w)
		y := modulo(bitwise(just, modelTurned(a, 2), modelTurned(a, 13), modelTurned(a, 22)), bitwise(func(ones int) bool { return ones >= 2 }, a, b, c))
		k = g
		g = f
		f = e
		e = modulo(d, x)
		d = c
		c = b
		b = a
		a = modulo(x, y)
	}
	for i, x := range []uint32{a, b, c, d, e, f, g, k} {
		h[i] = modulo(h[i], x)
	}
	return h
}

// modelPad grows by a nought until 8 bytes are lacking.
func modelPad(b []byte) []byte {
	row := append(append([]byte{}, b...), 8*16)
	for (len(row)+8)%64 != 0 {
		row = append(row, 0)
	}
	count, digits := uint64(len(b))*8, make([]byte, 8)
	for place := 7; place >= 0; place-- {
		digits[place] = byte(count % 256)
		count /= 256
	}
	return append(row, digits...)
}

func modelSum(constants [64]uint32, b []byte) [32]byte {
	h, row := modelStart(), modelPad(b)
	for ; len(row) > 0; row = row[64:] {
		h = modelBlock(constants, h, [64]byte(row[:64]))
	}
	var id [32]byte
	for i, x := range h {
		for place := 4*i + 3; place >= 4*i; place-- {
			id[place] = byte(x % 256)
			x /= 256
		}
	}
	return id
}

// P3.2: each constant, and each word of the beginning, is the root that the document says.
func TestRoots(t *testing.T) {
	if p := primes(64); p[0] != 2 || p[7] != 19 || p[63] != 311 {
		t.Fatalf("the model's primes: %d", p)
	}
	for i, want := range modelConstants() {
		if got := sha.Constants()[i]; got != want {
			t.Errorf("constant %d: %08x, not %08x", i, got, want)
		}
	}
	for i, want := range modelStart() {
		if got := sha.Start()[i]; got != want {
			t.Errorf("word %d of the beginning: %08x, not %08x", i, got, want)
		}
	}
}

// P3.1: a block goes into whatever words as the document says: words and blocks of noughts alone, of ones alone, with one bit, and of chance.
func TestBlockIsTheModels(t *testing.T) {
	constants := modelConstants()
	same := func(what string, h [8]uint32, b [64]byte) {
		t.Helper()
		if got, want := sha.Block(h, b), modelBlock(constants, h, b); got != want {
			t.Errorf("%s: %08x, not %08x", what, got, want)
		}
	}
	var noughts, ones [64]byte
	var none, all [8]uint32
	for i := range ones {
		ones[i] = 255
	}
	for i := range all {
		all[i] = 4294967295
	}
	for _, h := range [][8]uint32{none, all, modelStart()} {
		same("a block of noughts", h, noughts)
		same("a block of ones", h, ones)
	}
	for i := range 64 {
		b := noughts
		b[i] = 1 << (i % 8)
		same("a block with one bit", modelStart(), b)
	}
	for i := range 8 {
		h := none
		h[i] = 1 << (5*i + 1) % 32
		same("words with one bit", h, noughts)
	}
	chance := rand.New(rand.NewSource(3))
	for range 100 {
		h, b := none, noughts
		for i := range h {
			h[i] = chance.Uint32()
		}
		for i := range b {
			b[i] = byte(chance.Intn(256))
		}
		same("words and a block of chance", h, b)
	}
}

// P3.1: the digests of rows of each length up to beyond two blocks.
func TestSumIsTheModels(t *testing.T) {
	constants := modelConstants()
	for n := range 131 {
		if got, want := sha.Sum(row(n)), modelSum(constants, row(n)); got != want {
			t.Errorf("%d bytes: %x, not %x", n, got, want)
		}
	}
}

// P3.2: rows of each length are filled up as the document says.
func TestPadIsTheModels(t *testing.T) {
	for n := range 260 {
		has(t, "Pad", sha.Pad(row(n)), modelPad(row(n)))
	}
}
