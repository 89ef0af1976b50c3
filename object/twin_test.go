package object

import (
	"slices"
	"testing"

	"confluence/api"
)

// Nobody knows two objects with one digest: so the parts are made up here.

// P6.3: two unlike parts with one Id are ErrTwin, wherever they stand, two that are the same one part; a tree that may not be goes ahead.
func TestTwins(t *testing.T) {
	a, b, c := api.Id{1}, api.Id{2}, api.Id{3}
	blob := func(id api.Id, s string) api.Held {
		return api.Held{Id: id, Object: api.Object{Kind: api.ObjBlob, Text: s}}
	}
	tree := func(id api.Id, leaves ...api.Leaf) api.Held {
		return api.Held{Id: id, Object: api.Object{Kind: api.ObjTree, Leaves: leaves}}
	}
	leaf := api.Leaf{Path: "p", Id: a}
	none := api.Leaf{Path: "p"}
	for _, x := range []struct {
		what string
		in   []api.Held
		want []api.Held
		err  api.Errno
	}{
		{"unlike ones", []api.Held{blob(a, "1"), blob(b, "2"), tree(c, leaf)}, []api.Held{blob(a, "1"), blob(b, "2"), tree(c, leaf)}, api.OK},
		{"the same ones", []api.Held{blob(a, "1"), blob(b, "2"), blob(a, "1"), tree(c, leaf)}, []api.Held{blob(a, "1"), blob(b, "2"), tree(c, leaf)}, api.OK},
		{"two texts", []api.Held{blob(a, "1"), blob(a, "2"), tree(c, leaf)}, nil, api.ErrTwin},
		{"two texts, apart", []api.Held{blob(b, "1"), blob(a, "1"), blob(b, "2"), tree(c, leaf)}, nil, api.ErrTwin},
		{"two texts, the first one once more", []api.Held{blob(a, "1"), blob(a, "2"), blob(a, "1"), tree(c, leaf)}, nil, api.ErrTwin},
		{"the first text and the tree", []api.Held{blob(a, "1"), blob(b, "2"), tree(a, leaf)}, nil, api.ErrTwin},
		{"the last text and the tree", []api.Held{blob(a, "1"), blob(b, "2"), tree(b, leaf)}, nil, api.ErrTwin},
		{"two texts, and a tree that may not be", []api.Held{blob(a, "1"), blob(a, "2"), tree(c, none)}, nil, api.ErrFull},
		{"a text, and a tree that may not be", []api.Held{blob(a, "1"), tree(a, none)}, nil, api.ErrFull},
		{"a tree alone", []api.Held{tree(a)}, []api.Held{tree(a)}, api.OK},
	} {
		got, err := gathered(slices.Values(x.in))
		same := func(g, w api.Held) bool { return g.Id == w.Id && Same(g.Object, w.Object) }
		if err != x.err || !slices.EqualFunc(got, x.want, same) {
			t.Errorf("%s: %v and error %d, not %v and %d", x.what, got, err, x.want, x.err)
		}
	}
}

// R6: whoever goes through the parts of a map may leave early, and go through them again.
func TestPartsLeftEarly(t *testing.T) {
	m := api.Map{Rows: []api.Row{{Path: "a", Text: "1"}, {Path: "b", Text: "2"}}}
	told := parts(m)
	for range 2 {
		for n := range 4 {
			met := 0
			for range told {
				if met == n {
					break
				}
				met++
			}
			if met != min(n, 3) {
				t.Errorf("%d parts, not %d", met, min(n, 3))
			}
		}
	}
}
