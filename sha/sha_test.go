package sha_test

import (
	"bytes"
	"slices"
	"strings"
	"testing"

	"confluence/api"
	"confluence/sha"
)

// The texts of digests that the tests ask for again and again.
const (
	textOfAbc  = "ba7816bf8f01cfea414140de5dae2223b00361a396177a9cb410ff61f20015ad"
	textOfNone = "e3b0c44298fc1c149afbf4c8996fb92427ae41e4649b934ca495991b7852b855"
	digits     = "0123456789abcdef"
)

// row is a row of n bytes that is n's alone.
func row(n int) []byte {
	b := make([]byte, n)
	for i := range b {
		b[i] = byte(7*i + n)
	}
	return b
}

// roomy is a row of those bytes with room behind its end, enough for what fills it up; the room is all 0xEE.
func roomy(b []byte) []byte {
	whole := append(append([]byte{}, b...), bytes.Repeat([]byte{0xEE}, 160)...)
	return whole[:len(b)]
}

// roomKept tells whether the room behind a roomy row is as it was.
func roomKept(b []byte) bool {
	return bytes.Equal(b[len(b) : len(b)+160][:160], bytes.Repeat([]byte{0xEE}, 160))
}

// has fails the test if bytes are others than these.
func has(t *testing.T, what string, got, want []byte) {
	t.Helper()
	if !bytes.Equal(got, want) {
		t.Errorf("%s: % x, not % x", what, got, want)
	}
}

// refused fails the test if Parse takes a text, or tells a digest beside its error.
func refused(t *testing.T, s string) {
	t.Helper()
	if id, err := sha.Parse(s); err != api.ErrId || id != (api.Id{}) {
		t.Errorf("Parse(%q): %x and error %d, not noughts and %d", s, id, err, api.ErrId)
	}
}

// parsed fails the test if Parse answers another digest.
func parsed(t *testing.T, s string, want api.Id) {
	t.Helper()
	if id, err := sha.Parse(s); err != api.OK || id != want {
		t.Errorf("Parse(%q): %x and error %d, not %x", s, id, err, want)
	}
}

// at is a digest of noughts, but for one byte.
func at(place int, x byte) api.Id {
	var id api.Id
	id[place] = x
	return id
}

// less fails the test if a is not the lesser one, in one way alone.
func less(t *testing.T, a, b api.Id) {
	t.Helper()
	if !sha.Less(a, b) || sha.Less(b, a) {
		t.Errorf("Less(%x, %x) is %t, the other way round %t", a, b, sha.Less(a, b), sha.Less(b, a))
	}
}

// P3.1, P3.2, P3.3: the chapter's examples.
func TestExamples(t *testing.T) {
	if s := sha.Text(sha.Sum([]byte("abc"))); s != textOfAbc {
		t.Errorf("abc: %s", s)
	}
	for _, b := range [][]byte{nil, {}} {
		if s := sha.Text(sha.Sum(b)); s != textOfNone {
			t.Errorf("nothing: %s", s)
		}
		if n := len(sha.Pad(b)); n != 64 {
			t.Errorf("Pad of nothing: %d bytes", n)
		}
	}
	if x := sha.Constants()[0]; x != 0x428a2f98 {
		t.Errorf("the first constant: %x", x)
	}
	if x := sha.Start()[0]; x != 0x6a09e667 {
		t.Errorf("the first word of the beginning: %x", x)
	}
	refused(t, "ab")
}

// P3.1: digests as others have reckoned them.
func TestSumOfKnownRows(t *testing.T) {
	for _, c := range []struct {
		name string
		row  []byte
		text string
	}{
		{"56 letters", []byte("abcdbcdecdefdefgefghfghighijhijkijkljklmklmnlmnomnopnopq"), "248d6a61d20638b8e5c026930c3e6039a33ce45964ff2167f6ecedd419db06c1"},
		{"112 letters", []byte("abcdefghbcdefghicdefghijdefghijkefghijklfghijklmghijklmnhijklmnoijklmnopjklmnopqklmnopqrlmnopqrsmnopqrstnopqrstu"), "cf5b16a778af8380036ce59e7b0492370b249b11e8f07a51afac45037afee9d1"},
		{"a million a", bytes.Repeat([]byte("a"), 1000000), "cdc76e5c9914fb9281a1c7e284d73e67f1809a48a497200e046d39ccc7112cd0"},
		{"2^21 and 5 noughts", make([]byte, 1<<21+5), "64fd2e4967cabd6182fc63e4e49ba8864445ea69fbd1156e52f7572636050d80"},
		{"1 byte", row(1), "4bf5122f344554c53bde2ebb8cd2b7e3d1600ad631c385a5d7cce23c7785459a"},
		{"54 bytes", row(54), "1ad616be707a2b269ecfe28bdea4a4284a4f78a221287d45b98004231f501c77"},
		{"55 bytes", row(55), "81afe5b788dc2ce138ff83d9b20164db75a94d75d2b2432eea4a0ef605088c72"},
		{"56 bytes", row(56), "2aba54f0ac632420a2b502431408866e40e1d5e430df4cd822642c78ab2eb9c1"},
		{"57 bytes", row(57), "903284efbf9100e8ba1614ec65eacacad125e03f857cae7acbf8b73b23e0fdfe"},
		{"63 bytes", row(63), "733d3d4ee79ee67145bf73da13588f6f235d37414fc64b14a2f00f1762792f5e"},
		{"64 bytes", row(64), "79322907b3e9d013d7dc2c2f256674dbf733045cde01df3539271c6f5605feb8"},
		{"65 bytes", row(65), "d85c007c6eb440f085afa2b84f6f2bce4658b240e9f62cb1364bf0485a57e720"},
		{"119 bytes", row(119), "6c87eedf096b345de205b702e5223b73b447a3207791ded3ea007ba15ed6736e"},
		{"120 bytes", row(120), "42500cf6a1e3936d6b9e0bcfe296d654b63255e525487d3634d0b15fde591c4d"},
		{"127 bytes", row(127), "68f6ff710276900c0ffbbc57426f67e00c2e01f0750c7edc25ac06b8ce7a8095"},
		{"128 bytes", row(128), "489d55fea9a73af36b6dd0be7b4117d8e5683386d39544e8a44c99a87f368707"},
		{"129 bytes", row(129), "4e1556b2e9a50a3cc9478f3254727b01065f9ac5d2c3a8b4cd538ae7240bb87d"},
		{"1000 bytes", row(1000), "6b0df76627243d095b0c4400cb658b7e804dd03461cc03aee8fc8fe0bcada168"},
	} {
		if s := sha.Text(sha.Sum(c.row)); s != c.text {
			t.Errorf("%s: %s, not %s", c.name, s, c.text)
		}
	}
}

// P3.1: the digests of the rows of 0 to 300 bytes, told by the digest of all of them.
func TestSumOfEachLength(t *testing.T) {
	var all []byte
	for n := range 301 {
		id := sha.Sum(row(n))
		all = append(all, id[:]...)
	}
	if s := sha.Text(sha.Sum(all)); s != "60d63ff40b5558727a9b786ac0be9300f7ca58fd9ddd3b2f3681b369018a87dc" {
		t.Errorf("the digest of the digests: %s", s)
	}
}

// P3.1: neither the row nor the room behind its end is changed, and what stands there does not count.
func TestSumLeavesItsRow(t *testing.T) {
	for _, n := range []int{0, 3, 55, 56, 63, 64, 65, 200} {
		b := roomy(row(n))
		id := sha.Sum(b)
		has(t, "the row", b, row(n))
		if !roomKept(b) {
			t.Errorf("Sum of %d bytes wrote behind their end", n)
		}
		if id != sha.Sum(row(n)) || id != sha.Sum(b) {
			t.Errorf("%d bytes with room behind them have another digest, or another one the second time", n)
		}
	}
}

// P3.1: the block of abc, filled up, brings the beginning to the words of its digest; the words and the block that were handed in stay.
func TestBlockOfAbc(t *testing.T) {
	var b [64]byte
	copy(b[:], "abc\x80")
	b[63] = 24
	h, block := sha.Start(), b
	got := sha.Block(h, block)
	want := [8]uint32{0xba7816bf, 0x8f01cfea, 0x414140de, 0x5dae2223, 0xb00361a3, 0x96177a9c, 0xb410ff61, 0xf20015ad}
	if got != want {
		t.Errorf("%08x, not %08x", got, want)
	}
	if h != sha.Start() || block != b {
		t.Error("Block changed what it was handed")
	}
	if again := sha.Block(h, block); again != want {
		t.Errorf("the second time: %08x", again)
	}
}

// P3.2: what is told is told anew each time, whatever becomes of what was told.
func TestConstantsAndStartAreTheirOwn(t *testing.T) {
	constants, start := sha.Constants(), sha.Start()
	clear(constants[:])
	clear(start[:])
	if last := sha.Constants()[63]; last != 0xc67178f2 {
		t.Errorf("the last constant: %x", last)
	}
	if last := sha.Start()[7]; last != 0x5be0cd19 {
		t.Errorf("the last word of the beginning: %x", last)
	}
	if s := sha.Text(sha.Sum([]byte("abc"))); s != textOfAbc {
		t.Errorf("abc: %s", s)
	}
}

// P3.2: how long rows are, filled up: as few noughts as it takes, at the edges of one block and of two.
func TestPadTakesFewBlocks(t *testing.T) {
	for _, c := range []struct{ n, blocks int }{
		{0, 1}, {1, 1}, {54, 1}, {55, 1}, {56, 2}, {57, 2}, {63, 2}, {64, 2}, {65, 2},
		{118, 2}, {119, 2}, {120, 3}, {127, 3}, {128, 3}, {129, 3}, {183, 3}, {184, 4}, {1 << 16, 1025},
	} {
		if got := len(sha.Pad(row(c.n))); got != 64*c.blocks {
			t.Errorf("Pad of %d bytes: %d bytes, not %d blocks", c.n, got, c.blocks)
		}
	}
}

// P3.2: what stands where: the bytes, 80 to the base 16, noughts, and how many bits there are, in 8 bytes.
func TestPadLaysBits(t *testing.T) {
	abc := append([]byte{'a', 'b', 'c', 0x80}, make([]byte, 60)...)
	abc[63] = 24
	has(t, "Pad of abc", sha.Pad([]byte("abc")), abc)
	many := sha.Pad(make([]byte, 1<<21+5))
	has(t, "Pad of 2^21 and 5 noughts, at its end", many[len(many)-8:], []byte{0, 0, 0, 0, 1, 0, 0, 40})
	if many[1<<21+4] != 0 || many[1<<21+5] != 0x80 || many[1<<21+6] != 0 {
		t.Error("Pad of 2^21 and 5 noughts: 80 stands elsewhere")
	}
}

// P3.2: the row that Pad answers is its own: neither the bytes nor the room behind them is written, even where all would have room there.
func TestPadAnswersARowOfItsOwn(t *testing.T) {
	for _, n := range []int{0, 1, 55, 56, 63, 64, 65, 128} {
		b := roomy(row(n))
		got := sha.Pad(b)
		want := slices.Clone(got)
		has(t, "the row after Pad", b, row(n))
		if !roomKept(b) {
			t.Errorf("Pad of %d bytes wrote behind their end", n)
		}
		for i := range b {
			b[i] ^= 255
		}
		has(t, "Pad after the row was changed", got, want)
		clear(got)
		for i := range b {
			b[i] ^= 255
		}
		has(t, "the row after what Pad answered was changed", b, row(n))
		if !roomKept(b) {
			t.Errorf("what Pad of %d bytes answered lies behind their end", n)
		}
		has(t, "Pad the second time", sha.Pad(b), want)
	}
}

// P3.2: what is filled up already is filled up anew.
func TestPadOfWhatIsFilledUp(t *testing.T) {
	once := sha.Pad([]byte("abc"))
	twice := sha.Pad(once)
	if len(twice) != 128 || !bytes.Equal(twice[:64], once) || twice[64] != 0x80 || twice[126] != 2 || twice[127] != 0 {
		t.Errorf("% x", twice)
	}
}

// P3.3: two signs for each byte, the higher half first, of each byte at each place.
func TestTextOfEachByte(t *testing.T) {
	for place := range 32 {
		for x := range 256 {
			want := strings.Repeat("00", place) + string([]byte{digits[x/16], digits[x%16]}) + strings.Repeat("00", 31-place)
			if got := sha.Text(at(place, byte(x))); got != want {
				t.Errorf("byte %d at %d: %s, not %s", x, place, got, want)
			}
			parsed(t, want, at(place, byte(x)))
		}
	}
}

// P3.3: a text whose bytes are all unlike.
func TestParseInOrder(t *testing.T) {
	var id api.Id
	for i := range id {
		id[i] = byte(i*8 + 1)
	}
	const text = "0109111921293139414951596169717981899199a1a9b1b9c1c9d1d9e1e9f1f9"
	parsed(t, text, id)
	if got := sha.Text(id); got != text {
		t.Errorf("Text: %s, not %s", got, text)
	}
}

// P3.3: no text of any length but 64 is a digest's, be it of an odd number of signs or an even one.
func TestParseOfOddLengths(t *testing.T) {
	for n := range 200 {
		if n != 64 {
			refused(t, strings.Repeat("0", n))
			refused(t, strings.Repeat(textOfAbc, 4)[:n])
		}
	}
	refused(t, "")
	refused(t, textOfAbc+textOfAbc)
	refused(t, textOfAbc+" ")
	refused(t, " "+textOfAbc)
	refused(t, textOfAbc+"\n")
	refused(t, "0x"+textOfAbc)
}

// P3.3: at each place each byte but the sixteen signs is refused: capital letters, what stands just ahead of 0 and a and behind 9 and f, blanks, and bytes that are no text at all.
func TestParseOfWrongSigns(t *testing.T) {
	for place := range 64 {
		for x := range 256 {
			b := []byte(textOfAbc)
			b[place] = byte(x)
			if strings.IndexByte(digits, byte(x)) < 0 {
				refused(t, string(b))
			} else if _, err := sha.Parse(string(b)); err != api.OK {
				t.Errorf("sign %c at %d: error %d", x, place, err)
			}
		}
	}
	refused(t, strings.ToUpper(textOfAbc))
	refused(t, "B"+textOfAbc[1:])
}

// P3.3: signs of more than one byte, be the text of 64 bytes or of 64 signs.
func TestParseOfWideSigns(t *testing.T) {
	for _, wide := range []string{"é", "０", "ａ", "١", "\uFFFD", "🜁"} {
		refused(t, wide+textOfAbc[len(wide):])
		refused(t, textOfAbc[:64-len(wide)]+wide)
		refused(t, textOfAbc[:30]+wide+textOfAbc[30+len(wide):])
		refused(t, wide+textOfAbc[1:])
		refused(t, textOfAbc[:63]+wide)
		refused(t, strings.Repeat(wide, 64))
		refused(t, strings.Repeat(wide, 64/len(wide)))
	}
	refused(t, "\xff"+textOfAbc[1:])
	refused(t, textOfAbc[:63]+"\xc3")
	refused(t, textOfAbc[:32]+"\x00"+textOfAbc[33:])
}

// P3.3: of the same two neither is the lesser one.
func TestLessOfTheSame(t *testing.T) {
	for _, id := range []api.Id{{}, at(0, 1), at(31, 255), sha.Sum(nil)} {
		if sha.Less(id, id) {
			t.Errorf("%x is less than itself", id)
		}
	}
}

// P3.3: they differ at one place alone, the first and the last ones too; bytes above 127 are the greater ones.
func TestLessAtOnePlace(t *testing.T) {
	for place := range 32 {
		for _, c := range [][2]byte{{0, 1}, {1, 2}, {127, 128}, {0, 255}, {254, 255}, {1, 200}} {
			less(t, at(place, c[0]), at(place, c[1]))
			a, b := sha.Sum(nil), sha.Sum(nil)
			a[place], b[place] = c[0], c[1]
			less(t, a, b)
		}
	}
}

// P3.3: the first place where they differ decides, whatever stands behind it.
func TestLessByTheFirstPlace(t *testing.T) {
	for first := range 32 {
		for later := first + 1; later < 32; later++ {
			a, b := at(later, 255), at(first, 1)
			less(t, a, b)
			a[first], b[first] = 128, 129
			less(t, a, b)
		}
	}
}

// P3.4: Sum is what the beginning comes to by Block, over the blocks of Pad, laid highest first.
func TestSumGoesByItsParts(t *testing.T) {
	for _, n := range []int{0, 1, 55, 56, 63, 64, 65, 119, 120, 128, 300, 1000} {
		h := sha.Start()
		for rest := sha.Pad(row(n)); len(rest) > 0; rest = rest[64:] {
			h = sha.Block(h, [64]byte(rest[:64]))
		}
		var want api.Id
		for i, x := range h {
			want[4*i], want[4*i+1], want[4*i+2], want[4*i+3] = byte(x/16777216), byte(x/65536), byte(x/256), byte(x)
		}
		if got := sha.Sum(row(n)); got != want {
			t.Errorf("%d bytes: %x, not %x", n, got, want)
		}
	}
}

// P3.4: a digest's text is parsed to it, and what is parsed is its own text.
func TestTextsThereAndBack(t *testing.T) {
	ids := []api.Id{{}, at(0, 255), at(31, 1)}
	for n := range 200 {
		ids = append(ids, sha.Sum(row(n)))
	}
	for _, id := range ids {
		parsed(t, sha.Text(id), id)
	}
	for _, s := range []string{textOfAbc, textOfNone, strings.Repeat("0", 64), strings.Repeat("f", 64), strings.Repeat(digits, 4)} {
		id, err := sha.Parse(s)
		if got := sha.Text(id); err != api.OK || got != s {
			t.Errorf("%s is parsed to %s, with error %d", s, got, err)
		}
	}
}

// P3.4: Less is one order, that of the texts: of each two just one is the lesser one, or they are the same.
func TestLessIsTheOrderOfTexts(t *testing.T) {
	ids := []api.Id{{}, at(0, 1), at(0, 128), at(0, 255), at(15, 255), at(16, 1), at(16, 10), at(31, 1), at(31, 9), at(31, 10), at(31, 160)}
	for n := range 60 {
		ids = append(ids, sha.Sum(row(n)))
	}
	for _, a := range ids {
		for _, b := range ids {
			if got, want := sha.Less(a, b), sha.Text(a) < sha.Text(b); got != want {
				t.Errorf("Less(%x, %x) is %t", a, b, got)
			}
		}
	}
	slices.SortFunc(ids, func(a, b api.Id) int {
		if sha.Less(a, b) {
			return -1
		}
		if sha.Less(b, a) {
			return 1
		}
		return 0
	})
	for i := 1; i < len(ids); i++ {
		if sha.Text(ids[i-1]) > sha.Text(ids[i]) {
			t.Errorf("in order, the text at %d is greater than the one behind it", i-1)
		}
	}
}
