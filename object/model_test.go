package object_test

import (
	"math/rand"
	"slices"
	"strconv"
	"testing"

	"confluence/api"
	"confluence/object"
	"confluence/sha"
)

// The model says the chapter's words once more. It lays bytes in one row of pieces, and goes over bytes by places, without a reader; whether they are those of an object it does not tell by laying them anew.

// modelPath tells whether s is a path.
func modelPath(s string) bool {
	for _, b := range []byte(s) {
		if b <= ' ' || b >= 0x7f {
			return false
		}
	}
	return len(s) > 0 && len(s) < 49
}

// modelPaths tells whether paths may be those of a tree, or of an edit.
func modelPaths(paths []string) bool {
	last := ""
	for _, p := range paths {
		if !modelPath(p) || p <= last {
			return false
		}
		last = p
	}
	return len(paths) < 33
}

// modelZero tells whether an object has nothing but what a list of its fields' names says.
func modelZero(o api.Object, counts ...string) bool {
	has := map[string]bool{
		"Text": o.Text != "", "Leaves": len(o.Leaves) != 0, "Style": o.Style != 0, "Tree": o.Tree != api.Id{}, "Base": o.Base != api.Id{},
		"Parents": len(o.Parents) != 0, "Edit": len(o.Edit.Rows) != 0, "Number": o.Number != 0, "Author": o.Author != 0, "Note": o.Note != "",
	}
	for _, name := range counts {
		delete(has, name)
	}
	for _, filled := range has {
		if filled {
			return false
		}
	}
	return true
}

// modelFields tells whether each field is as the chapter says of the Kind and the Style.
func modelFields(o api.Object) bool {
	switch {
	case o.Kind == 1:
		return modelZero(o, "Text") && len(o.Text) < 257
	case o.Kind == 2:
		var paths []string
		for _, l := range o.Leaves {
			paths = append(paths, l.Path)
			if (l.Id == api.Id{}) {
				return false
			}
		}
		return modelZero(o, "Leaves") && modelPaths(paths)
	case o.Kind != 3 || o.Tree == api.Id{} || len(o.Note) > 200:
		return false
	}
	for i, p := range o.Parents {
		if slices.Index(o.Parents, p) != i || (p == api.Id{}) {
			return false
		}
	}
	var paths []string
	for _, c := range o.Edit.Rows {
		paths = append(paths, c.Path)
		if len(c.Text) > 256 || !c.Is && len(c.Text) > 0 {
			return false
		}
	}
	if !modelPaths(paths) {
		return false
	}
	switch o.Style {
	case 1:
		return modelZero(o, "Style", "Tree", "Author", "Note")
	case 2:
		return modelZero(o, "Style", "Tree", "Parents", "Edit", "Number", "Author", "Note") && len(o.Parents) == 1 && o.Number > 0
	case 3:
		return modelZero(o, "Style", "Tree", "Parents", "Base", "Edit", "Number", "Author", "Note") && len(o.Parents) == 2 && o.Number > 0
	}
	return false
}

// modelBytes are the bytes of an object whose fields are as they may be.
func modelBytes(o api.Object) []byte {
	if o.Kind == 1 {
		return slices.Concat([]byte{1, byte(len(o.Text) / 256), byte(len(o.Text) % 256)}, []byte(o.Text))
	}
	if o.Kind == 2 {
		pieces := [][]byte{{2, byte(len(o.Leaves))}}
		for _, l := range o.Leaves {
			pieces = append(pieces, []byte{byte(len(l.Path))}, []byte(l.Path), slices.Clone(l.Id[:]))
		}
		return slices.Concat(pieces...)
	}
	pieces := [][]byte{{3, byte(o.Style)}, slices.Clone(o.Tree[:]), {byte(len(o.Parents))}}
	for _, p := range o.Parents {
		pieces = append(pieces, slices.Clone(p[:]))
	}
	pieces = append(pieces, slices.Clone(o.Base[:]), []byte{byte(len(o.Edit.Rows))})
	for _, c := range o.Edit.Rows {
		is := map[bool]byte{true: 1, false: 0}[c.Is]
		pieces = append(pieces, []byte{byte(len(c.Path))}, []byte(c.Path), []byte{is, byte(len(c.Text) / 256), byte(len(c.Text) % 256)}, []byte(c.Text))
	}
	pieces = append(pieces, four(o.Number), four(o.Author), []byte{byte(len(o.Note))}, []byte(o.Note))
	return slices.Concat(pieces...)
}

// four are the bytes of a number.
func four(n uint32) []byte {
	return []byte{byte(n / 16777216), byte(n / 65536 % 256), byte(n / 256 % 256), byte(n % 256)}
}

// modelMay tells whether an object may be.
func modelMay(o api.Object) bool {
	return modelFields(o) && len(modelBytes(o)) < 801
}

// modelLinks are an object's links.
func modelLinks(o api.Object) []api.Id {
	var list []api.Id
	if modelMay(o) && o.Kind == 3 {
		list = slices.Concat([]api.Id{o.Tree}, o.Parents)
	}
	if modelMay(o) && o.Kind == 2 {
		for _, l := range o.Leaves {
			list = append(list, l.Id)
		}
	}
	return list
}

// modelDecode is what bytes say.
func modelDecode(b []byte) (api.Object, api.Errno) {
	if len(b) == 0 {
		return api.Object{}, api.ErrShort
	}
	var o api.Object
	place, right := 1, true
	// piece is the next n bytes; beyond the end all bytes are noughts, which lead nowhere but to the end.
	piece := func(n int) []byte {
		row := make([]byte, n)
		if place < len(b) {
			copy(row, b[place:])
		}
		place += n
		return row
	}
	number := func(n int) int {
		x := 0
		for _, d := range piece(n) {
			x = x*256 + int(d)
		}
		return x
	}
	id := func() api.Id { return api.Id(piece(32)) }
	o.Kind = int(b[0])
	if o.Kind == 1 {
		o.Text = string(piece(number(2)))
	}
	if o.Kind == 2 {
		for range number(1) {
			o.Leaves = append(o.Leaves, api.Leaf{Path: string(piece(number(1))), Id: id()})
		}
	}
	if o.Kind == 3 {
		o.Style, o.Tree = number(1), id()
		for range number(1) {
			o.Parents = append(o.Parents, id())
		}
		o.Base = id()
		for range number(1) {
			c := api.Change{Path: string(piece(number(1)))}
			is := number(1)
			c.Is = is == 1
			right = right && is < 2
			c.Text = string(piece(number(2)))
			o.Edit.Rows = append(o.Edit.Rows, c)
		}
		o.Number, o.Author = uint32(number(4)), uint32(number(4))
		o.Note = string(piece(number(1)))
	}
	switch {
	case place > len(b):
		return api.Object{}, api.ErrShort
	case !right || place < len(b) || !modelMay(o):
		return api.Object{}, api.ErrObject
	}
	return o, api.OK
}

// modelParts are the parts of a map that may be.
func modelParts(m api.Map) ([]api.Held, api.Errno) {
	var list []api.Held
	blobs := map[string]api.Id{}
	tree := api.Object{Kind: 2}
	for _, r := range m.Rows {
		o := api.Object{Kind: 1, Text: r.Text}
		id := sha.Sum(modelBytes(o))
		if _, there := blobs[r.Text]; !there {
			list = append(list, api.Held{Id: id, Object: o})
		}
		blobs[r.Text] = id
		tree.Leaves = append(tree.Leaves, api.Leaf{Path: r.Path, Id: id})
	}
	if !modelMay(tree) {
		return nil, api.ErrFull
	}
	return append(list, api.Held{Id: sha.Sum(modelBytes(tree)), Object: tree}), api.OK
}

// chance chooses; all that it makes hangs on its seed.
type chance struct {
	*rand.Rand
}

// id is one of four Ids, or zero, seldom.
func (c chance) id() api.Id {
	if c.Intn(25) == 0 {
		return api.Id{}
	}
	return api.Id{byte(c.Intn(2)), 31: byte(1 + c.Intn(2))}
}

// text is a text, seldom one that is too long.
func (c chance) text() string {
	switch c.Intn(30) {
	case 0:
		return text(256 + c.Intn(3))
	case 1:
		return text(c.Intn(256))
	}
	return text(c.Intn(6))
}

// paths are so many paths that rise, or less.
func (c chance) paths(n int) []string {
	var list []string
	for range n {
		list = append(list, numbered(c.Intn(100))+text(c.Intn(3)))
	}
	slices.Sort(list)
	return slices.Compact(list)
}

// odd are paths of which, seldom, one may not be, or not there.
func (c chance) odd(paths []string) []string {
	if len(paths) > 0 && c.Intn(12) == 0 {
		paths[c.Intn(len(paths))] = []string{"", "a b", text(49), paths[0]}[c.Intn(4)]
	}
	return paths
}

// leaves and edit are so many rows, or less.
func (c chance) leaves(n int) []api.Leaf {
	var list []api.Leaf
	for _, p := range c.odd(c.paths(n)) {
		l := api.Leaf{Path: p, Id: api.Id{31: 1}}
		if c.Intn(5) == 0 {
			l.Id = c.id()
		}
		list = append(list, l)
	}
	return list
}

func (c chance) edit(n int) api.Edit {
	var e api.Edit
	for _, p := range c.odd(c.paths(n)) {
		x := put(p, c.text())
		if c.Intn(3) == 0 {
			x = gone(p)
		}
		if c.Intn(30) == 0 {
			x.Is = !x.Is
		}
		e.Rows = append(e.Rows, x)
	}
	return e
}

// object is an object; about half of them may be.
func (c chance) object() api.Object {
	o := api.Object{Kind: 1 + c.Intn(3)}
	switch o.Kind {
	case 1:
		o.Text = c.text()
	case 2:
		o.Leaves = c.leaves(c.Intn(25))
	case 3:
		o.Style = 1 + c.Intn(3)
		o.Tree, o.Author, o.Note = c.id(), c.Uint32(), text(c.Intn(5))
		for range o.Style - 1 {
			o.Parents = append(o.Parents, c.id())
		}
		if o.Style > 1 {
			o.Number, o.Edit = c.Uint32(), c.edit(c.Intn(9))
		}
		if o.Style == 3 {
			o.Base = c.id()
		}
	}
	if c.Intn(4) == 0 {
		c.spoil(&o)
	}
	return o
}

// spoil lays something into a field of an object, which may be right there.
func (c chance) spoil(o *api.Object) {
	switch c.Intn(11) {
	case 0:
		o.Kind = c.Intn(6) - 1
	case 1:
		o.Text = c.text()
	case 2:
		o.Leaves = c.leaves(c.Intn(35))
	case 3:
		o.Style = c.Intn(6) - 1
	case 4:
		o.Tree = c.id()
	case 5:
		o.Base = c.id()
	case 6:
		o.Parents = append(o.Parents, c.id())
	case 7:
		o.Edit = c.edit(c.Intn(35))
	case 8:
		o.Number = uint32(c.Intn(2))
	case 9:
		o.Author = uint32(c.Intn(2))
	case 10:
		o.Note = text(198 + c.Intn(5))
	}
}

// bend is bytes with up to three things done to them.
func (c chance) bend(b []byte) []byte {
	for range 1 + c.Intn(3) {
		i := c.Intn(len(b) + 1)
		switch c.Intn(4) {
		case 0:
			b = slices.Insert(slices.Clone(b), i, byte(c.Intn(256)))
		case 1:
			b = slices.Clone(b[:i])
		case 2:
			if i < len(b) {
				b = slices.Delete(slices.Clone(b), i, i+1)
			}
		case 3:
			if i < len(b) {
				b = slices.Clone(b)
				b[i] = byte(c.Intn(4))
			}
		}
	}
	return b
}

// P6.1 to P6.4: objects of chance, some of which may not be, and bytes that have gone wrong; both kinds are met.
func TestChanceOnesAreTheModels(t *testing.T) {
	c := chance{rand.New(rand.NewSource(6))}
	met := map[int]int{}
	var last api.Object
	for i := range 9000 {
		what, o := "object of chance, number "+strconv.Itoa(i), c.object()
		asModel(t, what, o)
		if modelMay(o) {
			met[o.Kind+o.Style]++
			bent := c.bend(modelBytes(o))
			decodes(t, what+", bent", bent)
			_, err := modelDecode(bent)
			met[int(err)]++
		} else {
			met[0]++
		}
		if object.Same(o, last) != same(o, last) {
			t.Errorf("%s: Same of %v and %v: %v", what, o, last, !same(o, last))
		}
		last = o
	}
	for _, what := range []int{0, 1, 2, 4, 5, 6, int(api.ErrShort), int(api.ErrObject)} {
		if met[what] < 200 {
			t.Errorf("%d was met %d times only", what, met[what])
		}
	}
}

// P6.2: all rows of up to two bytes, and all of up to seven bytes of few kinds.
func TestSmallRowsOfBytesAreTheModels(t *testing.T) {
	decodes(t, "no bytes", nil)
	for x := range 65536 {
		decodes(t, "one byte", []byte{byte(x)})
		decodes(t, "two bytes", []byte{byte(x / 256), byte(x)})
	}
	rows := [][]byte{{}}
	for range 7 {
		var longer [][]byte
		for _, row := range rows {
			for _, b := range []byte{0, 1, 2, 3, 4} {
				longer = append(longer, append(slices.Clone(row), b))
			}
		}
		rows = longer
		for _, row := range rows {
			decodes(t, "few bytes", row)
		}
	}
}

// P6.3: maps of chance.
func TestPartsOfChanceAreTheModels(t *testing.T) {
	c := chance{rand.New(rand.NewSource(36))}
	met := map[api.Errno]int{}
	for i := range 1500 {
		var m api.Map
		for _, p := range c.paths(1 + c.Intn(26)) {
			m.Rows = append(m.Rows, api.Row{Path: p, Text: text(c.Intn(4))})
		}
		list, err := modelParts(m)
		divides(t, "map of chance, number "+strconv.Itoa(i), m, list, err)
		met[err]++
	}
	if met[api.OK] < 500 || met[api.ErrFull] < 100 {
		t.Errorf("OK was met %d times, ErrFull %d times", met[api.OK], met[api.ErrFull])
	}
}
