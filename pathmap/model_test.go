package pathmap_test

import (
	"math/rand"
	"slices"
	"sort"
	"strconv"
	"testing"

	"confluence/api"
	"confluence/pathmap"
)

// The model says the chapter's words once more: a map is a text, or none, of each path, and a list is made of it at the end. It has no walk over two lists, as the program has.

// content is the text of each path that has one.
type content map[string]string

// modelPath tells whether s is a path, by the list of all bytes that a path has.
func modelPath(s string) bool {
	const all = "!\"#$%&'()*+,-./0123456789:;<=>?@ABCDEFGHIJKLMNOPQRSTUVWXYZ[\\]^_`abcdefghijklmnopqrstuvwxyz{|}~"
	for _, b := range []byte(s) {
		if !slices.Contains([]byte(all), b) {
			return false
		}
	}
	return len(s) != 0 && len(s) < 49
}

// modelRising tells whether paths are what they are once they are in order, and no two are the same.
func modelRising(paths []string) bool {
	met := map[string]bool{}
	for _, p := range paths {
		met[p] = true
	}
	return sort.StringsAreSorted(paths) && len(met) == len(paths)
}

func modelCheck(m api.Map) api.Errno {
	var paths []string
	may := len(m.Rows) < 33
	for _, r := range m.Rows {
		paths = append(paths, r.Path)
		may = may && modelPath(r.Path) && len(r.Text) < 257
	}
	if may && modelRising(paths) {
		return api.OK
	}
	return api.ErrMap
}

func modelCheckEdit(e api.Edit) api.Errno {
	var paths []string
	may := len(e.Rows) < 33
	for _, c := range e.Rows {
		paths = append(paths, c.Path)
		may = may && modelPath(c.Path) && len(c.Text) < 257 && (c.Is || len(c.Text) == 0)
	}
	if may && modelRising(paths) {
		return api.OK
	}
	return api.ErrEdit
}

// contentOf is what a map has.
func contentOf(m api.Map) content {
	all := content{}
	for _, r := range m.Rows {
		all[r.Path] = r.Text
	}
	return all
}

// rising is the map that has all this.
func (all content) rising() api.Map {
	var paths []string
	for p := range all {
		paths = append(paths, p)
	}
	sort.Strings(paths)
	var m api.Map
	for _, p := range paths {
		m.Rows = append(m.Rows, api.Row{Path: p, Text: all[p]})
	}
	return m
}

func modelApply(m api.Map, e api.Edit) (api.Map, api.Errno) {
	switch {
	case modelCheck(m) != api.OK:
		return api.Map{}, api.ErrMap
	case modelCheckEdit(e) != api.OK:
		return api.Map{}, api.ErrEdit
	}
	all := contentOf(m)
	for _, c := range e.Rows {
		delete(all, c.Path)
		if c.Is {
			all[c.Path] = c.Text
		}
	}
	if len(all) > 32 {
		return api.Map{}, api.ErrFull
	}
	return all.rising(), api.OK
}

func modelDiff(a, b api.Map) (api.Edit, api.Errno) {
	if modelCheck(a) != api.OK || modelCheck(b) != api.OK {
		return api.Edit{}, api.ErrMap
	}
	from, to := contentOf(a), contentOf(b)
	var e api.Edit
	for _, p := range modelPaths(a, b) {
		was, there := from[p]
		is, here := to[p]
		if there != here || was != is {
			e.Rows = append(e.Rows, api.Change{Path: p, Is: here, Text: is})
		}
	}
	if len(e.Rows) > 32 {
		return api.Edit{}, api.ErrEdit
	}
	return e, api.OK
}

func modelPaths(l ...api.Map) []string {
	met := content{}
	for _, m := range l {
		for _, r := range m.Rows {
			met[r.Path] = ""
		}
	}
	var paths []string
	for p := range met {
		paths = append(paths, p)
	}
	sort.Strings(paths)
	return paths
}

func modelGet(m api.Map, path string) (string, bool) {
	text, there := "", false
	for _, r := range slices.Backward(m.Rows) {
		if r.Path == path {
			text, there = r.Text, true
		}
	}
	return text, there
}

// asModel asks each call of two maps and an edit, and holds the answers against the model.
func asModel(t *testing.T, what string, a, b api.Map, e api.Edit) {
	t.Helper()
	is(t, what+": Check", pathmap.Check(a), modelCheck(a))
	is(t, what+": CheckEdit", pathmap.CheckEdit(e), modelCheckEdit(e))
	m, err := modelApply(a, e)
	applies(t, what, a, e, m, err)
	d, err := modelDiff(a, b)
	differs(t, what, a, b, d, err)
	leads(t, what, modelPaths(a, b), a, b)
	for _, p := range append(modelPaths(a, b), "", "a", "zz") {
		text, there := modelGet(a, p)
		gets(t, what, a, p, text, there)
	}
}

// smallMaps are all maps of two texts, or none, by three paths of which two begin like another one.
func smallMaps() []api.Map {
	list := []api.Map{{}}
	for _, p := range []string{"a", "a!", "aa"} {
		for _, m := range list[:len(list):len(list)] {
			for _, text := range []string{"", "1"} {
				list = append(list, api.Map{Rows: append(slices.Clone(m.Rows), api.Row{Path: p, Text: text})})
			}
		}
	}
	return list
}

// smallEdits are all edits of those paths and texts.
func smallEdits() []api.Edit {
	list := []api.Edit{{}}
	for _, p := range []string{"a", "a!", "aa"} {
		for _, e := range list[:len(list):len(list)] {
			for _, c := range []api.Change{{Path: p}, {Path: p, Is: true}, {Path: p, Is: true, Text: "1"}} {
				list = append(list, api.Edit{Rows: append(slices.Clone(e.Rows), c)})
			}
		}
	}
	return list
}

// P5.1 to P5.5: all small maps, two by two, and all small edits of them.
func TestSmallOnesAreTheModels(t *testing.T) {
	maps, edits := smallMaps(), smallEdits()
	if len(maps) != 27 || len(edits) != 64 {
		t.Fatalf("%d maps and %d edits, not 27 and 64", len(maps), len(edits))
	}
	for i, a := range maps {
		for k, b := range maps {
			asModel(t, "small map "+strconv.Itoa(i)+" and "+strconv.Itoa(k), a, b, api.Edit{})
			if pathmap.Same(a, b) != (i == k) {
				t.Errorf("Same of the small maps %d and %d: %v", i, k, i != k)
			}
			follows(t, a, b)
		}
		for _, e := range edits {
			asModel(t, "small edit of map "+strconv.Itoa(i), a, a, e)
			twice(t, a, e)
		}
		if t.Failed() {
			return
		}
	}
	for i, a := range edits {
		for k, b := range edits {
			if pathmap.SameEdit(a, b) != (i == k) {
				t.Errorf("SameEdit of the small edits %d and %d: %v", i, k, i != k)
			}
		}
	}
}

// chanceMap is a map of about many rows by paths of one pool; one in five has a fault.
func chanceMap(chance *rand.Rand, many int) api.Map {
	all := content{}
	for range many {
		all[pool(chance)] = strconv.Itoa(chance.Intn(2))
	}
	m := all.rising()
	if len(m.Rows) > 0 && chance.Intn(5) == 0 {
		r := &m.Rows[chance.Intn(len(m.Rows))]
		switch chance.Intn(4) {
		case 0:
			*r = m.Rows[0]
		case 1:
			r.Path += " "
		case 2:
			r.Path = ""
		case 3:
			r.Text = text(257)
		}
	}
	return m
}

// chanceEdit is an edit of about many rows by paths of that pool; one in five has a fault.
func chanceEdit(chance *rand.Rand, many int) api.Edit {
	var e api.Edit
	for _, r := range chanceMap(chance, many).Rows {
		c := api.Change{Path: r.Path, Is: true, Text: r.Text}
		if chance.Intn(4) == 0 {
			c = api.Change{Path: r.Path}
		}
		e.Rows = append(e.Rows, c)
	}
	if len(e.Rows) > 0 && chance.Intn(5) == 0 {
		e.Rows[chance.Intn(len(e.Rows))] = api.Change{Path: e.Rows[0].Path, Text: "x"}
	}
	return e
}

// pool is one of 60 paths, of one sign, of two and of three.
func pool(chance *rand.Rand) string {
	n := chance.Intn(60)
	return string([]byte{byte(33 + n), '~', '!'}[:1+n%3])
}

// P5.1 to P5.5: maps and edits of chance, up to beyond the limit, some of which may not be; the answers meet each error, and none.
func TestChanceOnesAreTheModels(t *testing.T) {
	chance := rand.New(rand.NewSource(5))
	many := func() int { return []int{3, 12, 30, 45}[chance.Intn(4)] }
	met := map[api.Errno]int{}
	for i := range 2000 {
		a, b, e := chanceMap(chance, many()), chanceMap(chance, many()), chanceEdit(chance, many())
		asModel(t, "maps of chance, number "+strconv.Itoa(i), a, b, e)
		follows(t, a, b)
		twice(t, a, e)
		if t.Failed() {
			return
		}
		_, err := modelApply(a, e)
		met[err]++
		if _, err = modelDiff(a, b); err != api.ErrMap {
			met[err]++
		}
	}
	for _, err := range []api.Errno{api.OK, api.ErrMap, api.ErrEdit, api.ErrFull} {
		if met[err] < 100 {
			t.Errorf("error %d was met %d times only", err, met[err])
		}
	}
}
