package merge_test

import (
	"math/rand"
	"slices"
	"sort"
	"strconv"
	"testing"

	"confluence/api"
	"confluence/merge"
)

// The model says the chapter's words once more: what a map has at a path is a word, and what the three words at a path come to is told by how many unlike ones there are.

// words is what each path has: nothing at all is none, and a text has a sign ahead of it.
type words map[string]string

func wordsOf(m api.Map) words {
	w := words{}
	for _, r := range m.Rows {
		w[r.Path] = "=" + r.Text
	}
	return w
}

// wordOf and sideOf go from a text, or none, to a word, and back.
func wordOf(is bool, text string) string {
	if is {
		return "=" + text
	}
	return ""
}

func sideOf(word string) api.Side {
	if word == "" {
		return api.Side{}
	}
	return api.Side{Is: true, Text: word[1:]}
}

// mapOf is the map that has these words.
func (w words) mapOf() api.Map {
	var m api.Map
	for _, p := range risen(w) {
		if w[p] != "" {
			m.Rows = append(m.Rows, api.Row{Path: p, Text: w[p][1:]})
		}
	}
	return m
}

// risen are the paths of all these words, rising.
func risen(l ...words) []string {
	all := map[string]bool{}
	for _, w := range l {
		for p := range w {
			all[p] = true
		}
	}
	var paths []string
	for p := range all {
		paths = append(paths, p)
	}
	sort.Strings(paths)
	return paths
}

// modelPath tells whether s is a path.
func modelPath(s string) bool {
	for _, b := range []byte(s) {
		if b < '!' || b > '~' {
			return false
		}
	}
	return len(s) > 0 && len(s) < 49
}

// modelRows tells whether rows may be: how many, and by each one's path and text.
func modelRows(n int, row func(i int) (path, text string)) bool {
	last := ""
	for i := range n {
		path, text := row(i)
		if !modelPath(path) || len(text) > 256 || path <= last {
			return false
		}
		last = path
	}
	return n < 33
}

func modelMap(m api.Map) bool {
	return modelRows(len(m.Rows), func(i int) (string, string) { return m.Rows[i].Path, m.Rows[i].Text })
}

func modelEdit(e api.Edit) bool {
	for _, c := range e.Rows {
		if !c.Is && c.Text != "" {
			return false
		}
	}
	return modelRows(len(e.Rows), func(i int) (string, string) { return e.Rows[i].Path, e.Rows[i].Text })
}

// modelAt is what three words at a path come to, or that they conflict: three unlike ones.
func modelAt(base, ours, theirs string) (string, bool) {
	unlike := map[string]bool{base: true, ours: true, theirs: true}
	if len(unlike) == 3 {
		return "", true
	}
	if ours == theirs {
		return ours, false
	}
	delete(unlike, base)
	for word := range unlike {
		return word, false
	}
	return base, false
}

// three is base, ours and theirs.
type three [3]api.Map

func (m three) may() bool {
	return modelMap(m[0]) && modelMap(m[1]) && modelMap(m[2])
}

func modelConflicts(m three) ([]api.Conflict, api.Errno) {
	if !m.may() {
		return nil, api.ErrMap
	}
	var list []api.Conflict
	base, ours, theirs := wordsOf(m[0]), wordsOf(m[1]), wordsOf(m[2])
	for _, p := range risen(base, ours, theirs) {
		if _, conflict := modelAt(base[p], ours[p], theirs[p]); conflict {
			list = append(list, api.Conflict{Path: p, Base: sideOf(base[p]), Ours: sideOf(ours[p]), Theirs: sideOf(theirs[p])})
		}
	}
	return list, api.OK
}

func modelMerge(m three, by api.Edit) (api.Map, api.Errno) {
	list, err := modelConflicts(m)
	switch {
	case err != api.OK:
		return api.Map{}, err
	case !modelEdit(by):
		return api.Map{}, api.ErrEdit
	}
	said, asked, made := words{}, words{}, words{}
	for _, c := range by.Rows {
		said[c.Path] = wordOf(c.Is, c.Text)
	}
	for _, c := range list {
		asked[c.Path] = ""
	}
	if !slices.Equal(risen(said), risen(asked)) {
		return api.Map{}, api.ErrConflict
	}
	base, ours, theirs := wordsOf(m[0]), wordsOf(m[1]), wordsOf(m[2])
	for _, p := range risen(base, ours, theirs) {
		word, conflict := modelAt(base[p], ours[p], theirs[p])
		if conflict {
			word = said[p]
		}
		made[p] = word
	}
	if len(made.mapOf().Rows) > 32 {
		return api.Map{}, api.ErrFull
	}
	return made.mapOf(), api.OK
}

func modelTake(m three, which int) (api.Edit, api.Errno) {
	list, err := modelConflicts(m)
	switch {
	case err != api.OK:
		return api.Edit{}, err
	case len(list) > 32:
		return api.Edit{}, api.ErrEdit
	}
	if which != 0 && which != 2 {
		which = 1
	}
	var e api.Edit
	for _, c := range list {
		word := wordsOf(m[which])[c.Path]
		e.Rows = append(e.Rows, api.Change{Path: c.Path, Is: word != "", Text: sideOf(word).Text})
	}
	return e, api.OK
}

// modelApply is Apply of layer 5.
func modelApply(m api.Map, e api.Edit) (api.Map, api.Errno) {
	switch {
	case !modelMap(m):
		return api.Map{}, api.ErrMap
	case !modelEdit(e):
		return api.Map{}, api.ErrEdit
	}
	w := wordsOf(m)
	for _, c := range e.Rows {
		w[c.Path] = wordOf(c.Is, c.Text)
	}
	if len(w.mapOf().Rows) > 32 {
		return api.Map{}, api.ErrFull
	}
	return w.mapOf(), api.OK
}

func modelRebase(base, onto api.Map, e api.Edit) (api.Map, api.Errno) {
	made, err := modelApply(base, e)
	if err != api.OK {
		return api.Map{}, err
	}
	return modelMerge(three{base, onto, made}, api.Edit{})
}

// whiches are numbers of the three, and such of none.
var whiches = []int{0, 1, 2, 3, -1, -2, 256, 258, -1 << 63, 1<<63 - 1}

// asModel asks each call of three maps alone, and holds the answers against the model.
func asModel(t *testing.T, what string, m three) {
	t.Helper()
	if t.Failed() {
		return
	}
	list, err := modelConflicts(m)
	conflicts(t, what, m, list, err)
	for _, which := range whiches {
		e, err := modelTake(m, which)
		takes(t, what, m, which, e, err)
	}
	follows(t, what, m)
}

// asModelBy asks each call of maps and an edit, and holds the answers against the model.
func asModelBy(t *testing.T, what string, m three, by api.Edit) {
	t.Helper()
	if t.Failed() {
		return
	}
	made, err := modelMerge(m, by)
	merges(t, what, m, by, made, err)
	made, err = modelRebase(m[0], m[1], by)
	rebases(t, what, m[0], m[1], by, made, err)
}

// smallMaps are all maps of three texts, or none, by these paths.
func smallMaps(paths ...string) []api.Map {
	list := []api.Map{{}}
	for _, p := range paths {
		for _, m := range list[:len(list):len(list)] {
			for _, text := range []string{"", "1", "2"} {
				list = append(list, api.Map{Rows: append(slices.Clone(m.Rows), api.Row{Path: p, Text: text})})
			}
		}
	}
	return list
}

// smallEdits are all edits of two texts, or gone, by these paths.
func smallEdits(paths ...string) []api.Edit {
	list := []api.Edit{{}}
	for _, p := range paths {
		for _, e := range list[:len(list):len(list)] {
			for _, c := range []api.Change{gone(p), put(p, ""), put(p, "9")} {
				list = append(list, api.Edit{Rows: append(slices.Clone(e.Rows), c)})
			}
		}
	}
	return list
}

// allThrees goes through all three of these maps, with each of these edits.
func allThrees(t *testing.T, maps []api.Map, edits []api.Edit) {
	t.Helper()
	for i, base := range maps {
		for k, ours := range maps {
			for l, theirs := range maps {
				what := "the small maps " + strconv.Itoa(i) + ", " + strconv.Itoa(k) + ", " + strconv.Itoa(l)
				m := three{base, ours, theirs}
				asModel(t, what, m)
				for _, e := range edits {
					asModelBy(t, what, m, e)
				}
			}
			if t.Failed() {
				return
			}
		}
	}
}

// P7.1 to P7.5: each way in which a path may stand in base, ours and theirs, with each edit of it and of another one; there are 64.
func TestOnePathIsTheModels(t *testing.T) {
	maps, edits := smallMaps("b"), smallEdits("a", "b", "c")
	if len(maps) != 4 || len(edits) != 64 {
		t.Fatalf("%d maps and %d edits, not 4 and 64", len(maps), len(edits))
	}
	allThrees(t, maps, edits)
}

// P7.1 to P7.5: two paths of which one begins like the other, each in each way.
func TestTwoPathsAreTheModels(t *testing.T) {
	maps, edits := smallMaps("a", "a!"), smallEdits("a", "a!")
	if len(maps) != 16 || len(edits) != 16 {
		t.Fatalf("%d maps and %d edits, not 16 and 16", len(maps), len(edits))
	}
	allThrees(t, maps, edits)
}

// pool is one of 60 paths, of one sign, of two and of three.
func pool(chance *rand.Rand) string {
	n := chance.Intn(60)
	return string([]byte{byte(33 + n), '~', '!'}[:1+n%3])
}

// chanceMap is a map of about many rows; now and then it has a fault.
func chanceMap(chance *rand.Rand, many int) api.Map {
	w := words{}
	for range many {
		w[pool(chance)] = "=" + strconv.Itoa(chance.Intn(3))
	}
	m := w.mapOf()
	if len(m.Rows) > 0 && chance.Intn(20) == 0 {
		r := &m.Rows[chance.Intn(len(m.Rows))]
		switch chance.Intn(4) {
		case 0:
			r.Path = m.Rows[0].Path + "\x7f"
		case 1:
			r.Path += " "
		case 2:
			r.Path = ""
		case 3:
			r.Text = text(257)
		}
	}
	return m
}

// chanceEdit is an edit of the paths of three maps' conflicts; now and then one is too few, one too many, another one, or one that may not be.
func chanceEdit(chance *rand.Rand, m three) api.Edit {
	var e api.Edit
	list, _ := modelConflicts(m)
	for _, c := range list {
		switch chance.Intn(3) {
		case 0:
			e.Rows = append(e.Rows, gone(c.Path))
		default:
			e.Rows = append(e.Rows, put(c.Path, strconv.Itoa(chance.Intn(9))))
		}
	}
	if len(e.Rows) == 0 {
		return e
	}
	i := chance.Intn(len(e.Rows))
	switch chance.Intn(12) {
	case 0:
		e.Rows = slices.Delete(e.Rows, i, i+1)
	case 1:
		e.Rows = slices.Insert(e.Rows, i+1, put(e.Rows[i].Path+"0", ""))
	case 2:
		e.Rows[i].Path += "0"
	case 3:
		e.Rows[i] = api.Change{Path: e.Rows[i].Path, Text: "1"}
	case 4:
		e.Rows = slices.Insert(e.Rows, i, e.Rows[i])
	}
	return e
}

// P7.1 to P7.5: maps and edits of chance, up to beyond the limits, some of which may not be; Merge meets each error, and none.
func TestChanceOnesAreTheModels(t *testing.T) {
	chance := rand.New(rand.NewSource(7))
	many := func() int { return []int{3, 12, 25, 40}[chance.Intn(4)] }
	met := map[api.Errno]int{}
	for i := range 1500 {
		m := three{chanceMap(chance, many()), chanceMap(chance, many()), chanceMap(chance, many())}
		if chance.Intn(4) == 0 {
			m[0] = api.Map{}
		}
		by := chanceEdit(chance, m)
		what := "maps of chance, number " + strconv.Itoa(i)
		asModel(t, what, m)
		asModelBy(t, what, m, by)
		if t.Failed() {
			return
		}
		_, err := modelMerge(m, by)
		met[err]++
	}
	for _, err := range []api.Errno{api.OK, api.ErrMap, api.ErrEdit, api.ErrConflict, api.ErrFull} {
		if met[err] < 30 {
			t.Errorf("error %d was met %d times only", err, met[err])
		}
	}
}

// chanceRebase is three of a base, what it is put onto, and an edit of about so many rows.
func chanceRebase(chance *rand.Rand, many int) (base, onto api.Map, e api.Edit) {
	base = chanceMap(chance, many)
	w := wordsOf(base)
	for range chance.Intn(8) {
		w[pool(chance)] = "=" + strconv.Itoa(chance.Intn(3))
	}
	onto = w.mapOf()
	for _, r := range chanceMap(chance, chance.Intn(8)).Rows {
		c := put(r.Path, r.Text)
		if chance.Intn(3) == 0 {
			c = api.Change{Path: r.Path, Text: []string{"", "", "", "", "1"}[chance.Intn(5)]}
		}
		e.Rows = append(e.Rows, c)
	}
	return base, onto, e
}

// P7.4: rebases of chance, of which each error is met, and none.
func TestChanceRebasesAreTheModels(t *testing.T) {
	chance := rand.New(rand.NewSource(74))
	met := map[api.Errno]int{}
	for i := range 4000 {
		base, onto, e := chanceRebase(chance, []int{2, 20, 40, 50}[chance.Intn(4)])
		want, err := modelRebase(base, onto, e)
		rebases(t, "rebase of chance, number "+strconv.Itoa(i), base, onto, e, want, err)
		if t.Failed() {
			return
		}
		met[err]++
	}
	for _, err := range []api.Errno{api.OK, api.ErrMap, api.ErrEdit, api.ErrConflict, api.ErrFull} {
		if met[err] < 30 {
			t.Errorf("error %d was met %d times only", err, met[err])
		}
	}
}

// follows fails the test if what follows does not: sides changed about, the same on both, base on one, whose words a merge has, a rebase onto base.
func follows(t *testing.T, what string, m three) {
	t.Helper()
	if t.Failed() || !m.may() {
		return
	}
	there, err := merge.Merge(m[0], m[1], m[2], api.Edit{})
	back, other := merge.Merge(m[0], m[2], m[1], api.Edit{})
	is(t, what+": the sides changed about", other, err)
	has(t, what+": the sides changed about", back.Rows, there.Rows)
	for _, x := range m {
		merges(t, what+": the same on both sides", three{m[0], x, x}, api.Edit{}, x, api.OK)
		merges(t, what+": base on the one side", three{m[0], m[0], x}, api.Edit{}, x, api.OK)
		merges(t, what+": base on the other side", three{m[0], x, m[0]}, api.Edit{}, x, api.OK)
	}
	for _, which := range whiches[:3] {
		by, err := merge.Take(m[0], m[1], m[2], which)
		if err != api.OK {
			continue
		}
		is(t, what+": Merge by what Take tells", oneOfThree(t, what, m, by), modelFull(m, by))
	}
}

// modelFull is the error of a merge whose resolutions are right.
func modelFull(m three, by api.Edit) api.Errno {
	_, err := modelMerge(m, by)
	return err
}

// oneOfThree fails the test if a path of a merge has what none of the three has; the merge's error.
func oneOfThree(t *testing.T, what string, m three, by api.Edit) api.Errno {
	t.Helper()
	made, err := merge.Merge(m[0], m[1], m[2], by)
	w := wordsOf(made)
	for _, p := range risen(w, wordsOf(m[0]), wordsOf(m[1]), wordsOf(m[2])) {
		if err == api.OK && w[p] != wordsOf(m[0])[p] && w[p] != wordsOf(m[1])[p] && w[p] != wordsOf(m[2])[p] {
			t.Errorf("%s: the merge has at %q what none of the three has", what, p)
		}
	}
	return err
}
