package entry_test

import (
	"bytes"
	"math"
	"math/rand"
	"reflect"
	"slices"
	"strconv"
	"testing"

	"confluence/api"
	"confluence/entry"
)

// The model says the chapter's words once more: Kind by Kind, by numbers written out, and by places in the bytes, without a reader.

// modelName tells whether s is a branch's name.
func modelName(s string) bool {
	for i := range len(s) {
		if b := s[i]; b <= ' ' || b >= 0x7f {
			return false
		}
	}
	return len(s) > 0 && len(s) < 25
}

// modelMay tells whether a command may be.
func modelMay(c api.Command) bool {
	if c.Client <= 0 || c.Client >= 4 || c.Seq == 0 {
		return false
	}
	noOld, noNew := c.Old == api.Id{}, c.New == api.Id{}
	switch c.Kind {
	case 1:
		return modelName(c.Branch) && noOld && noNew && len(c.Data) == 0
	case 2:
		return modelName(c.Branch) && len(c.Data) == 0
	case 3:
		return modelName(c.Branch) && noOld && len(c.Data) == 0
	case 4:
		return c.Branch == "" && noOld && noNew && len(c.Data) > 0 && len(c.Data) < 801
	}
	return false
}

// modelBytes are the bytes of a command; of one that may not be, whatever it has is laid as far as it goes.
func modelBytes(c api.Command) []byte {
	row := []byte{byte(c.Kind), byte(c.Client)}
	for _, weight := range []uint32{1 << 24, 1 << 16, 1 << 8, 1} {
		row = append(row, byte(c.Seq/weight%256))
	}
	length := []byte{byte(len(c.Data) / 256), byte(len(c.Data) % 256)}
	return slices.Concat(row, []byte{byte(len(c.Branch))}, []byte(c.Branch), c.Old[:], c.New[:], length, c.Data)
}

// modelDecode is what Decode is to answer.
func modelDecode(b []byte) (api.Command, api.Errno) {
	if len(b) < 7 {
		return api.Command{}, api.ErrShort
	}
	ids := 7 + int(b[6])
	if len(b) < ids+66 {
		return api.Command{}, api.ErrShort
	}
	end := ids + 66 + 256*int(b[ids+64]) + int(b[ids+65])
	if len(b) < end {
		return api.Command{}, api.ErrShort
	}
	c := api.Command{
		Kind: int(b[0]), Client: int(b[1]), Seq: uint32(b[2])*(1<<24) + uint32(b[3])*(1<<16) + uint32(b[4])*(1<<8) + uint32(b[5]),
		Branch: string(b[7:ids]), Old: api.Id(b[ids : ids+32]), New: api.Id(b[ids+32 : ids+64]), Data: slices.Clone(b[ids+66 : end]),
	}
	if len(b) > end || !modelMay(c) {
		return api.Command{}, api.ErrCommand
	}
	return c, api.OK
}

// same tells whether two commands are the same, whatever the program says of it.
func same(a, b api.Command) bool {
	a.Data, b.Data = append([]byte{}, a.Data...), append([]byte{}, b.Data...)
	return reflect.DeepEqual(a, b)
}

// pick is one of a list.
func pick[R any](r *rand.Rand, list ...R) R {
	return list[r.Intn(len(list))]
}

// drawn is a command of chance: half of them may be, but for what luck brings.
func drawn(r *rand.Rand) api.Command {
	c := api.Command{Kind: 1 + r.Intn(4), Client: 1 + r.Intn(3), Seq: pick(r, 1, r.Uint32(), math.MaxUint32)}
	if c.Kind == 4 {
		c.Data = make([]byte, pick(r, 1, 1+r.Intn(40), 800))
		r.Read(c.Data)
	} else {
		for range pick(r, 1, 1+r.Intn(24), 24) {
			c.Branch += string(rune(33 + r.Intn(94)))
		}
	}
	if c.Kind == 2 && r.Intn(2) == 0 {
		r.Read(c.Old[:])
	}
	if c.Kind%4 > 1 && r.Intn(2) == 0 {
		r.Read(c.New[:])
	}
	if r.Intn(2) == 0 {
		spoil(r, &c)
	}
	return c
}

// spoil puts something into a field of a command, which may be right there.
func spoil(r *rand.Rand, c *api.Command) {
	switch r.Intn(7) {
	case 0:
		c.Kind = r.Intn(7) - 1
	case 1:
		c.Client = r.Intn(6) - 1
	case 2:
		c.Seq = 0
	case 3:
		c.Branch += string([]byte{byte(r.Intn(256))})
	case 4:
		c.Old[r.Intn(32)] = byte(r.Intn(256))
	case 5:
		c.New[r.Intn(32)] = byte(r.Intn(256))
	case 6:
		c.Data = make([]byte, pick(r, 0, 1, 800, 801, r.Intn(900)))
	}
}

// bent is bytes of which some are other ones, or gone, or more.
func bent(r *rand.Rand, b []byte) []byte {
	b = slices.Clone(b)
	for range 1 + r.Intn(3) {
		at := r.Intn(len(b) + 1)
		if r.Intn(2) == 0 {
			at = min(at, 7) // the beginning tells the most
		}
		switch {
		case r.Intn(4) == 0:
			b = slices.Insert(b, at, byte(r.Intn(256)))
		case at == len(b):
			b = b[:len(b)/2]
		case r.Intn(3) == 0:
			b = slices.Delete(b, at, at+1)
		default:
			b[at] = pick(r, byte(r.Intn(4)), byte(r.Intn(256)))
		}
	}
	return b
}

// P11.1 to P11.3: commands of chance, and bytes that have gone wrong; of each kind enough are met.
func TestChanceOnesAreTheModels(t *testing.T) {
	r := rand.New(rand.NewSource(11))
	met := map[string]int{}
	last := drawn(r)
	for i := range 20000 {
		c := drawn(r)
		what := "command of chance, number " + strconv.Itoa(i)
		asModel(t, what, c)
		if entry.Same(c, last) != same(c, last) {
			t.Fatalf("%s: Same of %v and %v: %v", what, c, last, !same(c, last))
		}
		last = c
		b := bent(r, modelBytes(c))
		decodes(t, what+", bent", b)
		_, err := modelDecode(b)
		met["decoded "+strconv.Itoa(int(err))]++
		met["kind "+strconv.Itoa(c.Kind)+" "+strconv.FormatBool(modelMay(c))]++
	}
	for _, what := range []string{
		"decoded 0", "decoded 7", "decoded 210",
		"kind 1 true", "kind 2 true", "kind 3 true", "kind 4 true", "kind 1 false", "kind 2 false", "kind 3 false", "kind 4 false",
	} {
		if met[what] < 200 {
			t.Errorf("%s: met %d times only", what, met[what])
		}
	}
}

// P11.1, P11.3: all commands that are put together of these; those with unlike bytes are unlike.
func TestAllTogetherAreTheModels(t *testing.T) {
	first, last := api.Id{0: 1}, api.Id{31: 1}
	told := map[string]api.Command{}
	for _, kind := range []int{-1, 0, 1, 2, 3, 4, 5, 257, 258, 259, 260} {
		for _, client := range []int{-1, 0, 1, 3, 4, 257} {
			for _, seq := range []uint32{0, 1, 256, math.MaxUint32} {
				for _, name := range []string{"", "m", "mm", text(24), text(25), "a b", "\x7f", "é"} {
					for _, ids := range [][2]api.Id{{}, {first, {}}, {last, {}}, {{}, first}, {{}, last}, {first, last}, {last, first}} {
						for _, data := range [][]byte{nil, {}, {0}, {1, 0}, make([]byte, 800), make([]byte, 801)} {
							c := api.Command{Kind: kind, Client: client, Seq: seq, Branch: name, Old: ids[0], New: ids[1], Data: data}
							b, err := entry.Encode(c)
							if err != entry.Check(c) || err == api.OK != modelMay(c) {
								t.Fatalf("%v: Check %d, Encode %d", c, entry.Check(c), err)
							}
							if err != api.OK {
								continue
							}
							if other, ok := told[string(b)]; ok && !same(other, c) {
								t.Fatalf("%v and %v have the same bytes", other, c)
							}
							told[string(b)] = c
						}
					}
				}
			}
		}
	}
	// Of two Clients, three Seqs and three names; 1, 7, 3 of the first three Kinds; of puts so many as there is Data.
	if n := 2 * 3 * (3*(1+7+3) + 3); len(told) != n {
		t.Errorf("%d commands have bytes, not %d", len(told), n)
	}
}

// P11.2, P11.3: bytes of commands, of which each byte in turn is each other one, or is gone, or comes twice.
func TestBytesOneByOne(t *testing.T) {
	for _, c := range someCommands() {
		b := modelBytes(c)
		for at := range b {
			other := slices.Clone(b)
			for x := range 256 {
				other[at] = byte(x)
				decodes(t, "a byte is another one", other)
			}
			decodes(t, "a byte is gone", slices.Delete(slices.Clone(b), at, at+1))
			decodes(t, "a byte comes twice", slices.Insert(slices.Clone(b), at, b[at]))
		}
	}
}

// P11.2: rows of one byte, over and over, of each length up to beyond what a command has.
func TestRowsOfOneByte(t *testing.T) {
	for _, x := range []byte{0, 1, 2, 3, 4, 24, 25, 33, 126, 127, 255} {
		for n := range 1200 {
			decodes(t, "one byte, over and over", bytes.Repeat([]byte{x}, n))
		}
	}
}
