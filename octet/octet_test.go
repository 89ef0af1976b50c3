package octet_test

import (
	"bytes"
	"math"
	"testing"

	"confluence/api"
	"confluence/octet"
)

// puts are the calls that lay a number, each with the one that takes it off.
var puts = []struct {
	name  string
	width int
	most  uint64
	put   func(b []byte, x uint64) []byte
	take  func(r *octet.Reader) uint64
}{
	{"16", 2, math.MaxUint16,
		func(b []byte, x uint64) []byte { return octet.Put16(b, uint16(x)) },
		func(r *octet.Reader) uint64 { return uint64(r.U16()) }},
	{"32", 4, math.MaxUint32,
		func(b []byte, x uint64) []byte { return octet.Put32(b, uint32(x)) },
		func(r *octet.Reader) uint64 { return uint64(r.U32()) }},
	{"64", 8, math.MaxUint64,
		func(b []byte, x uint64) []byte { return octet.Put64(b, x) },
		func(r *octet.Reader) uint64 { return r.U64() }},
}

// digits are x's digits to the base 256, the one that weighs most first: by division, so that no fault in shifts is shared with the program.
func digits(x uint64, width int) []byte {
	row := make([]byte, width)
	for place := width - 1; place >= 0; place-- {
		row[place] = byte(x % 256)
		x /= 256
	}
	return row
}

// samples are numbers up to most, rising: both ends, and what lies about each power of 2.
func samples(most uint64) []uint64 {
	list := []uint64{0}
	for power := uint64(1); power != 0 && power <= most; power *= 2 {
		for _, x := range []uint64{power - 1, power, power + 1} {
			if x > list[len(list)-1] && x <= most {
				list = append(list, x)
			}
		}
	}
	for _, x := range []uint64{most - most/3, most} {
		if x > list[len(list)-1] {
			list = append(list, x)
		}
	}
	return list
}

// roomy is a row of those bytes with room behind its end; the room is all 0xEE.
func roomy(b ...byte) []byte {
	whole := append(append([]byte{}, b...), bytes.Repeat([]byte{0xEE}, 16)...)
	return whole[:len(b)]
}

// roomKept tells whether the room behind a roomy row is as it was.
func roomKept(b []byte) bool {
	return bytes.Equal(b[len(b):cap(b)][:16], bytes.Repeat([]byte{0xEE}, 16))
}

// is fails the test if a reader is not at such a place, with such an error.
func is(t *testing.T, what string, r *octet.Reader, left int, err api.Errno) {
	t.Helper()
	if r.Left() != left || r.Err() != err {
		t.Errorf("%s: %d left and error %d, not %d and %d", what, r.Left(), r.Err(), left, err)
	}
}

// has fails the test if bytes are others than these.
func has(t *testing.T, what string, got, want []byte) {
	t.Helper()
	if !bytes.Equal(got, want) {
		t.Errorf("%s: % x, not % x", what, got, want)
	}
}

// P1.1: the chapter's examples.
func TestPutExamples(t *testing.T) {
	has(t, "Put16", octet.Put16([]byte{7}, 258), []byte{7, 1, 2})
	has(t, "Put32", octet.Put32(nil, 1), []byte{0, 0, 0, 1})
	has(t, "Put64", octet.Put64(nil, 256), []byte{0, 0, 0, 0, 0, 0, 1, 0})
	has(t, "Put64, all unlike", octet.Put64([]byte{9}, 0x0102030405060708), []byte{9, 1, 2, 3, 4, 5, 6, 7, 8})
}

// P1.1: b, and behind it the digits, of every width, behind rows of some lengths.
func TestPutLaysDigits(t *testing.T) {
	for _, p := range puts {
		for _, x := range samples(p.most) {
			for _, b := range [][]byte{nil, {}, {5}, {0, 255, 3}} {
				has(t, "Put"+p.name, p.put(b, x), append(append([]byte{}, b...), digits(x, p.width)...))
			}
		}
	}
}

// P1.1: the row that is answered is its own: neither b nor the room behind b's end is written, and neither hangs on the other afterwards.
func TestPutAnswersARowOfItsOwn(t *testing.T) {
	for _, p := range puts {
		b := roomy(1, 2, 3)
		got := p.put(b, p.most)
		has(t, "b after Put"+p.name, b, []byte{1, 2, 3})
		if !roomKept(b) {
			t.Errorf("Put%s wrote behind b's end", p.name)
		}
		want := append([]byte{}, got...)
		for i := range b {
			b[i] = 77
		}
		has(t, "Put"+p.name+" after b was changed", got, want)
		for i := range got {
			got[i] = 99
		}
		has(t, "b after the answer was changed", b, []byte{77, 77, 77})
		if !roomKept(b) {
			t.Errorf("the answer of Put%s lies behind b's end", p.name)
		}
	}
}

// P1.1: two rows that go on from one row do not write over one another.
func TestPutTwiceBehindOneRow(t *testing.T) {
	for _, p := range puts {
		one := p.put([]byte{1}, 1)
		first, second := p.put(one, 2), p.put(one, 3)
		has(t, "Put"+p.name, first, append(append([]byte{1}, digits(1, p.width)...), digits(2, p.width)...))
		has(t, "Put"+p.name, second, append(append([]byte{1}, digits(1, p.width)...), digits(3, p.width)...))
	}
}

// P1.2: Equal.
func TestEqual(t *testing.T) {
	for _, c := range []struct {
		a, b []byte
		want bool
	}{
		{[]byte{1, 2}, []byte{1, 2}, true},
		{[]byte{1}, []byte{1, 0}, false},
		{nil, nil, true},
		{nil, []byte{}, true},
		{nil, []byte{0}, false},
		{[]byte{0}, []byte{0}, true},
		{[]byte{0}, []byte{0, 0}, false},
		{[]byte{1, 2}, []byte{2, 1}, false},
		{[]byte{255}, []byte{254}, false},
		{[]byte{1}, []byte{129}, false},
		{roomy(1, 2), []byte{1, 2}, true},
	} {
		if octet.Equal(c.a, c.b) != c.want || octet.Equal(c.b, c.a) != c.want {
			t.Errorf("Equal(% x; % x) is not %t both ways", c.a, c.b, c.want)
		}
	}
}

// P1.2: each place counts, for Equal and for Zero, and every bit of it.
func TestEachPlaceCounts(t *testing.T) {
	for n := 1; n <= 70; n++ {
		none := make([]byte, n)
		if !octet.Zero(none) || !octet.Equal(none, make([]byte, n)) {
			t.Errorf("%d noughts", n)
		}
		for place := range n {
			one := make([]byte, n)
			one[place] = 1 << (place % 8)
			if octet.Zero(one) {
				t.Errorf("Zero(% x)", one)
			}
			if octet.Equal(one, none) || octet.Equal(none, one) {
				t.Errorf("Equal(% x; noughts)", one)
			}
		}
	}
}

// P1.2: Zero of none, and of a row behind whose end something stands.
func TestZeroEdges(t *testing.T) {
	if !octet.Zero(nil) || !octet.Zero([]byte{}) {
		t.Error("Zero of no bytes")
	}
	if !octet.Zero(roomy(0, 0)) {
		t.Error("Zero looks behind the row's end")
	}
}

// P1.2: neither call changes what it is handed.
func TestEqualAndZeroChangeNothing(t *testing.T) {
	a, b := roomy(1, 2, 3), roomy(1, 2, 4)
	octet.Equal(a, b)
	octet.Zero(a)
	has(t, "a", a, []byte{1, 2, 3})
	has(t, "b", b, []byte{1, 2, 4})
	if !roomKept(a) || !roomKept(b) {
		t.Error("the room behind an end was changed")
	}
}

// P1.3: the chapter's example.
func TestReaderExample(t *testing.T) {
	r := octet.Read([]byte{1, 2, 5})
	if x := r.U16(); x != 258 {
		t.Errorf("U16: %d", x)
	}
	is(t, "behind U16", r, 1, api.OK)
	if x := r.U16(); x != 0 {
		t.Errorf("U16 with too few bytes: %d", x)
	}
	is(t, "behind too few bytes", r, 1, api.ErrShort)
	has(t, "Raw behind an error", r.Raw(1), nil)
}

// P1.3: each call takes off its width, highest digit first.
func TestEachCallTakesItsWidth(t *testing.T) {
	r := octet.Read([]byte{200, 1, 2, 3, 4, 5, 6, 250, 7, 8, 9, 10, 11, 12, 13, 14, 15})
	is(t, "at first", r, 17, api.OK)
	if x := r.U8(); x != 200 {
		t.Errorf("U8: %d", x)
	}
	is(t, "U8", r, 16, api.OK)
	if x := r.U16(); x != 0x0102 {
		t.Errorf("U16: %x", x)
	}
	is(t, "U16", r, 14, api.OK)
	if x := r.U32(); x != 0x03040506 {
		t.Errorf("U32: %x", x)
	}
	is(t, "U32", r, 10, api.OK)
	if x := r.U64(); x != 0xFA0708090A0B0C0D {
		t.Errorf("U64: %x", x)
	}
	is(t, "U64", r, 2, api.OK)
	has(t, "Raw", r.Raw(2), []byte{14, 15})
	is(t, "Raw to the end", r, 0, api.OK)
	has(t, "Raw(0) at the end", r.Raw(0), nil)
	is(t, "Raw(0) at the end", r, 0, api.OK)
}

// calls are the ways to take off a row, each told as whether it answered other than nothing.
var calls = []struct {
	name  string
	width int
	some  func(r *octet.Reader) bool
}{
	{"U8", 1, func(r *octet.Reader) bool { return r.U8() != 0 }},
	{"U16", 2, func(r *octet.Reader) bool { return r.U16() != 0 }},
	{"U32", 4, func(r *octet.Reader) bool { return r.U32() != 0 }},
	{"U64", 8, func(r *octet.Reader) bool { return r.U64() != 0 }},
	{"Raw(3)", 3, func(r *octet.Reader) bool { return len(r.Raw(3)) != 0 }},
	{"Raw(1)", 1, func(r *octet.Reader) bool { return len(r.Raw(1)) != 0 }},
}

// P1.3: just enough bytes are taken; one fewer is ErrShort, and nothing is taken.
func TestTooFewBytes(t *testing.T) {
	for _, c := range calls {
		full := octet.Read(bytes.Repeat([]byte{255}, c.width))
		if !c.some(full) {
			t.Errorf("%s of just enough bytes: nothing", c.name)
		}
		is(t, c.name+" of just enough bytes", full, 0, api.OK)
		if c.some(full) {
			t.Errorf("%s at the end: something", c.name)
		}
		is(t, c.name+" at the end", full, 0, api.ErrShort)
		for n := range c.width {
			short := octet.Read(bytes.Repeat([]byte{255}, n))
			if c.some(short) {
				t.Errorf("%s of %d bytes: something", c.name, n)
			}
			is(t, c.name+" of too few bytes", short, n, api.ErrShort)
		}
	}
}

// P1.3: a count of bytes that is below 0, or beyond all that can be.
func TestRawOfOddCounts(t *testing.T) {
	for _, c := range []struct {
		n   int
		err api.Errno
	}{
		{-1, api.ErrArg}, {-2, api.ErrArg}, {math.MinInt, api.ErrArg},
		{4, api.ErrShort}, {1 << 20, api.ErrShort}, {math.MaxInt, api.ErrShort},
	} {
		r := octet.Read([]byte{1, 2, 3, 4})
		r.U8()
		has(t, "Raw of an odd count", r.Raw(c.n), nil)
		is(t, "Raw of an odd count", r, 3, c.err)
	}
	empty := octet.Read(nil)
	has(t, "Raw(-1) of no bytes", empty.Raw(-1), nil)
	is(t, "Raw(-1) of no bytes", empty, 0, api.ErrArg)
}

// P1.3: an error stays, whatever is asked behind it: no other one takes its place, and nothing is taken any more.
func TestErrorStays(t *testing.T) {
	for _, err := range []api.Errno{api.ErrArg, api.ErrShort} {
		r := octet.Read(bytes.Repeat([]byte{255}, 40))
		r.U32()
		if err == api.ErrArg {
			r.Raw(-1)
		} else {
			r.Raw(37)
		}
		is(t, "the first error", r, 36, err)
		for _, c := range calls {
			if c.some(r) {
				t.Errorf("%s behind an error: something", c.name)
			}
			is(t, c.name+" behind an error", r, 36, err)
		}
		for _, n := range []int{0, -1, 37, math.MaxInt, math.MinInt} {
			has(t, "Raw behind an error", r.Raw(n), nil)
			is(t, "Raw behind an error", r, 36, err)
		}
	}
}

// P1.3: a reader of no bytes.
func TestReaderOfNothing(t *testing.T) {
	for _, b := range [][]byte{nil, {}, roomy()} {
		r := octet.Read(b)
		if r == nil {
			t.Fatal("Read answers no reader")
		}
		is(t, "at first", r, 0, api.OK)
		has(t, "Raw(0)", r.Raw(0), nil)
		is(t, "Raw(0)", r, 0, api.OK)
		if x := r.U8(); x != 0 {
			t.Errorf("U8: %d", x)
		}
		is(t, "U8", r, 0, api.ErrShort)
	}
}

// P1.3: a reader does not look behind the end of the row that it was handed.
func TestReaderEndsWhereTheRowEnds(t *testing.T) {
	r := octet.Read(roomy(1, 2, 3))
	is(t, "at first", r, 3, api.OK)
	if x := r.U32(); x != 0 {
		t.Errorf("U32: %x", x)
	}
	is(t, "U32", r, 3, api.ErrShort)
}

// P1.3: the bytes are the reader's alone: what is handed in may change afterwards, what was answered too, and nothing is written into what was handed in.
func TestReaderHasItsBytesForItself(t *testing.T) {
	b := roomy(1, 2, 3, 4, 5, 6)
	r := octet.Read(b)
	b[1], b[4] = 77, 77
	first := r.Raw(2)
	has(t, "Raw after b was changed", first, []byte{1, 2})
	first[0], first[1] = 88, 88
	_ = append(first, 88, 88)
	has(t, "Raw after the answer went on", r.Raw(2), []byte{3, 4})
	has(t, "b", b, []byte{1, 77, 3, 4, 77, 6})
	if !roomKept(b) {
		t.Error("the room behind b's end was changed")
	}
	last := r.Raw(2)
	has(t, "Raw to the end", last, []byte{5, 6})
	b[5] = 99
	has(t, "an answer after b was changed", last, []byte{5, 6})
}

// P1.3: rows that were answered share nothing with one another.
func TestAnswersShareNothing(t *testing.T) {
	r := octet.Read([]byte{1, 2, 3, 4})
	first := r.Raw(2)
	second := r.Raw(2)
	first = append(first, 9, 9)
	first[0] = 9
	has(t, "second", second, []byte{3, 4})
	second[0] = 8
	has(t, "first", first, []byte{9, 2, 9, 9})
}

// P1.3: two readers of one row go each its own way.
func TestTwoReadersOfOneRow(t *testing.T) {
	b := []byte{1, 2, 3}
	one, two := octet.Read(b), octet.Read(b)
	one.U16()
	one.Raw(-1)
	is(t, "one", one, 1, api.ErrArg)
	is(t, "two", two, 3, api.OK)
	if x := two.U16(); x != 258 {
		t.Errorf("U16 of the other reader: %x", x)
	}
}

// P1.3: a reader that is nil tells 0, nothing, ErrNil, whatever was asked of it.
func TestNilReader(t *testing.T) {
	var r *octet.Reader
	is(t, "at first", r, 0, api.ErrNil)
	for _, c := range calls {
		if c.some(r) {
			t.Errorf("%s of a nil reader: something", c.name)
		}
		is(t, c.name+" of a nil reader", r, 0, api.ErrNil)
	}
	for _, n := range []int{0, -1, math.MaxInt, math.MinInt} {
		has(t, "Raw of a nil reader", r.Raw(n), nil)
		is(t, "Raw of a nil reader", r, 0, api.ErrNil)
	}
}

// P1.4: numbers that were put one behind the other are taken off as they were, and then what stood behind them.
func TestPutAndTakeOff(t *testing.T) {
	for _, first := range puts {
		for _, second := range puts {
			for _, x := range samples(first.most) {
				for _, y := range samples(second.most) {
					b := append(second.put(first.put(nil, x), y), 42, 43)
					r := octet.Read(b)
					if got := first.take(r); got != x {
						t.Fatalf("U%s: %d, not %d", first.name, got, x)
					}
					if got := second.take(r); got != y {
						t.Fatalf("U%s: %d, not %d", second.name, got, y)
					}
					has(t, "what stood behind", r.Raw(r.Left()), []byte{42, 43})
					is(t, "at the end", r, 0, api.OK)
				}
			}
		}
	}
}

// P1.4: a row that was put behind other bytes is taken off behind them.
func TestTakeOffBehindABeginning(t *testing.T) {
	r := octet.Read(octet.Put64(octet.Put32(octet.Put16([]byte{9, 8, 7}, 65535), 65536), 1<<63))
	has(t, "the beginning", r.Raw(3), []byte{9, 8, 7})
	if x, y, z := r.U16(), r.U32(), r.U64(); x != 65535 || y != 65536 || z != 1<<63 {
		t.Errorf("%d, %d, %d", x, y, z)
	}
	is(t, "at the end", r, 0, api.OK)
}

// P1.4: the greater number's bytes are the greater ones, place by place from the left.
func TestBytesKeepTheOrder(t *testing.T) {
	for _, p := range puts {
		list := samples(p.most)
		for i, less := range list {
			for _, more := range list[i+1:] {
				if bytes.Compare(p.put(nil, less), p.put(nil, more)) >= 0 {
					t.Fatalf("Put%s: %d does not lie ahead of %d", p.name, less, more)
				}
			}
		}
	}
}

// P1.4: taken off in two parts bytes are what they are in one.
func TestTwoPartsAreOne(t *testing.T) {
	const most = 12
	for n := range most + 1 {
		row := make([]byte, n)
		for i := range row {
			row[i] = byte(17*i + 3)
		}
		for part := range n + 1 {
			two, one := octet.Read(append(row, 1)), octet.Read(append(row, 1))
			left, right := two.Raw(part), two.Raw(n-part)
			whole := one.Raw(n)
			has(t, "two parts", append(left, right...), whole)
			has(t, "one part", whole, row)
			is(t, "two parts", two, 1, api.OK)
			is(t, "one part", one, 1, api.OK)
		}
	}
}

// P1.4: what a number's bytes are does not hang on how they are taken off.
func TestNumberInParts(t *testing.T) {
	for _, p := range puts {
		for _, x := range samples(p.most) {
			b := p.put(nil, x)
			var sum uint64
			for r := octet.Read(b); r.Left() > 0; {
				sum = sum*256 + uint64(r.U8())
			}
			if whole := p.take(octet.Read(b)); sum != x || whole != x {
				t.Fatalf("Put%s of %d: %d byte by byte, %d at once", p.name, x, sum, whole)
			}
			has(t, "the number's bytes", octet.Read(b).Raw(p.width), b)
		}
	}
}
