package tests

import (
	"math"
	"slices"
	"strings"
	"testing"

	"loop.example/g00208/impl"
)

const threeLevels = "((bd f fh j jl) n (np r rt v vx))"

var seeks = []struct{ tree, key, path string }{
	{"", "", ""}, {"", "a", ""}, {"", longKey, ""},
	{"b", "", "0.0"}, {"b", "a", "0.0"}, {"b", "b", "0.0"}, {"b", "b\x00", ""}, {"b", "c", ""}, {"b", "\x00", "0.0"}, {"b", "\xff", ""},
	{"bdfh", "", "0.0"}, {"bdfh", "c", "0.1"}, {"bdfh", "d", "0.1"}, {"bdfh", "g", "0.3"}, {"bdfh", "h", "0.3"}, {"bdfh", "i", ""},
	// the key of a parent is of the kid behind it; behind a leaf's last key the next leaf follows
	{"(bd f fh)", "", "2.0 0.0"}, {"(bd f fh)", "a", "2.0 0.0"}, {"(bd f fh)", "b", "2.0 0.0"}, {"(bd f fh)", "c", "2.0 0.1"},
	{"(bd f fh)", "d", "2.0 0.1"}, {"(bd f fh)", "d\x00", "2.1 1.0"}, {"(bd f fh)", "e", "2.1 1.0"}, {"(bd f fh)", "f", "2.1 1.0"},
	{"(bd f fh)", "g", "2.1 1.1"}, {"(bd f fh)", "h", "2.1 1.1"}, {"(bd f fh)", "i", ""}, {"(bd f fh)", longKey, ""},
	// a parent's key that no leaf has
	{"(bd e gh)", "d", "2.0 0.1"}, {"(bd e gh)", "dd", "2.1 1.0"}, {"(bd e gh)", "e", "2.1 1.0"}, {"(bd e gh)", "f", "2.1 1.0"}, {"(bd e gh)", "g", "2.1 1.0"},
	{"(bd f fh j jl)", "i", "3.2 2.0"}, {"(bd f fh j jl)", "m", ""}, {"(bd f fh j jl)", "h", "3.1 1.1"},
	// leaves 0 to 2 are below node 3, 4 to 6 below node 7
	{threeLevels, "", "8.0 3.0 0.0"}, {threeLevels, "e", "8.0 3.1 1.0"}, {threeLevels, "i", "8.0 3.2 2.0"}, {threeLevels, "l", "8.0 3.2 2.1"},
	{threeLevels, "m", "8.1 7.0 4.0"}, {threeLevels, "n", "8.1 7.0 4.0"}, {threeLevels, "o", "8.1 7.0 4.1"}, {threeLevels, "q", "8.1 7.1 5.0"},
	{threeLevels, "v", "8.1 7.2 6.0"}, {threeLevels, "x", "8.1 7.2 6.1"}, {threeLevels, "y", ""},
}

func TestSeeks(t *testing.T) {
	for _, s := range seeks {
		f, root := layTree(s.tree)
		c, got := impl.Seek(f, root, s.key)
		if show := showCursor(c); got != impl.OK || show != s.path {
			t.Errorf("%q in %s: %q %d, want %q", s.key, s.tree, show, got, s.path)
		}
		if !impl.CursorOK(f, root, c) {
			t.Errorf("%q in %s: the cursor is not right", s.key, s.tree)
		}
	}
}

// Each tree's paths, in their order.
var ways = []struct {
	tree  string
	paths []string
}{
	{"", nil}, {"b", []string{"0.0"}}, {"bdfh", []string{"0.0", "0.1", "0.2", "0.3"}},
	{"(bd f fgh)", []string{"2.0 0.0", "2.0 0.1", "2.1 1.0", "2.1 1.1", "2.1 1.2"}},
	{threeLevels, []string{
		"8.0 3.0 0.0", "8.0 3.0 0.1", "8.0 3.1 1.0", "8.0 3.1 1.1", "8.0 3.2 2.0", "8.0 3.2 2.1",
		"8.1 7.0 4.0", "8.1 7.0 4.1", "8.1 7.1 5.0", "8.1 7.1 5.1", "8.1 7.2 6.0", "8.1 7.2 6.1",
	}},
}

func TestForthAndBack(t *testing.T) {
	for _, w := range ways {
		f, root := layTree(w.tree)
		var shown, forth, back []string
		for _, path := range pathsOf(f, root) {
			shown = append(shown, showCursor(cursorOf(path)))
			next, c1 := impl.CursorNext(f, root, cursorOf(path))
			ahead, c2 := impl.CursorBack(f, root, cursorOf(path))
			code(t, "CursorNext", c1, impl.OK)
			code(t, "CursorBack", c2, impl.OK)
			forth, back = append(forth, showCursor(next)), append(back, showCursor(ahead))
		}
		if !slices.Equal(shown, w.paths) {
			t.Fatalf("%s has paths %v", w.tree, shown)
		}
		with := slices.Concat([]string{""}, w.paths, []string{""})
		if len(shown) > 0 && (!slices.Equal(forth, with[2:]) || !slices.Equal(back, with[:len(with)-2])) {
			t.Errorf("%s: forth %v, back %v", w.tree, forth, back)
		}
		wantNoCursor(t, "the end of "+w.tree, f, root, impl.Cursor{}, impl.ErrNone)
		wantNoCursor(t, "the end of "+w.tree, f, root, at(), impl.ErrNone)
		wantNoCursor(t, "the end of no tree", f, -1, impl.Cursor{Path: []impl.Step{}}, impl.ErrNone)
	}
}

func TestEntriesOfCursors(t *testing.T) {
	for _, w := range ways {
		f, root := layTree(w.tree)
		list, _ := impl.TreeList(f, root, "", "")
		for i, path := range pathsOf(f, root) {
			e, got := impl.CursorEntry(f, root, cursorOf(path))
			if e != list[i] || e.Value != valueOf(e.Key) || got != impl.OK || !impl.CursorOK(f, root, cursorOf(path)) {
				t.Errorf("%s: entry %d is %v %d", w.tree, i, e, got)
			}
		}
	}
	f := forest(impl.Node{Leaf: true, Keys: []string{"", longKey}, Vals: []string{longValue, ""}})
	first, c1 := impl.CursorEntry(f, 0, at(0, 0))
	last, c2 := impl.CursorEntry(f, 0, at(0, 1))
	if first != (impl.Entry{Value: longValue}) || last != (impl.Entry{Key: longKey}) || c1+c2 != impl.OK {
		t.Error("entries at the bounds", first, last, c1, c2)
	}
}

// eachPath calls do with all paths of up to some steps, nodes from -1 to one behind the last, places from -1 to MaxKeys + 1.
func eachPath(f impl.Forest, longest int, do func([]impl.Step)) {
	level := [][]impl.Step{nil}
	for range longest {
		var next [][]impl.Step
		for _, path := range level {
			for node := -1; node <= len(f.Nodes); node++ {
				for place := -1; place <= impl.MaxKeys+1; place++ {
					next = append(next, append(slices.Clone(path), impl.Step{Node: node, At: place}))
				}
			}
		}
		for _, path := range next {
			do(path)
		}
		level = next
	}
}

func TestAllPathsOfSmallForests(t *testing.T) {
	two, _ := layTree("(bd f fgh)")
	for _, c := range []struct {
		f       impl.Forest
		longest int
	}{{forest(), 3}, {forest(leaf("b")), 3}, {forest(leaf("b", "d"), leaf("a", "b", "c", "d")), 2}, {two, 2}, {forest(two.Nodes...), 3}} {
		for root := -1; root < len(c.f.Nodes); root++ {
			paths := pathsOf(c.f, root)
			right := 0
			eachPath(c.f, c.longest, func(path []impl.Step) {
				ok := impl.CursorOK(c.f, root, impl.Cursor{Path: path})
				if ok {
					right++
				}
				if ok && !hasPath(paths, path) {
					t.Errorf("root %d of %v: %v is right", root, c.f, path)
				}
			})
			if right != len(paths) {
				t.Errorf("root %d of %v: %d paths are right, want %d", root, c.f, right, len(paths))
			}
		}
	}
}

// bentPaths are made of a path by one change each, at any step.
func bentPaths(path []impl.Step, nodes int) [][]impl.Step {
	var list [][]impl.Step
	for i := range path {
		list = append(list, path[:i], path[i+1:], slices.Insert(slices.Clone(path), i, path[i]))
		for node := -2; node < nodes+2; node++ {
			bent := slices.Clone(path)
			bent[i].Node = node
			list = append(list, bent, slices.Insert(slices.Clone(path), i, impl.Step{Node: node}))
		}
		for _, place := range append(oddInts, 4, 5, 6) {
			bent := slices.Clone(path)
			bent[i].At = place
			list = append(list, bent)
		}
		for _, node := range []int{math.MinInt, 1 << 32, 1<<32 + path[i].Node, math.MaxInt} {
			bent := slices.Clone(path)
			bent[i].Node = node
			list = append(list, bent)
		}
	}
	return append(list, append(slices.Clone(path), impl.Step{}), append(slices.Clone(path), impl.Step{Node: -1, At: -1}), slices.Repeat(path, 2))
}

func TestBentPaths(t *testing.T) {
	for _, text := range []string{"bdfh", "(bd f fgh j jl)", threeLevels} {
		f, root := layTree(text)
		paths := pathsOf(f, root)
		wrong := 0
		for _, path := range paths {
			for _, bent := range bentPaths(path, len(f.Nodes)) {
				switch {
				case hasPath(paths, bent):
					if !impl.CursorOK(f, root, cursorOf(bent)) {
						t.Errorf("%s: %v is not right", text, bent)
					}
				case len(bent) == 0:
					wantNoCursor(t, text+" at the end", f, root, cursorOf(bent), impl.ErrNone)
				default:
					wrong++
					wantNoCursor(t, text+" by a wrong path", f, root, cursorOf(bent), impl.ErrBad)
				}
			}
		}
		if wrong < 20*len(paths) {
			t.Errorf("%s: only %d wrong paths", text, wrong)
		}
	}
}

// A path of one tree is none of another one, though they share nodes.
func TestPathsOfOtherRoots(t *testing.T) {
	f, first := layTree(threeLevels)
	f, second, _ := impl.TreePut(f, first, "c", "new")
	f, third, _ := impl.TreeDrop(f, second, "x")
	roots := []int{-1, 0, 3, 7, first, second, third}
	for _, from := range roots {
		for _, path := range pathsOf(f, from) {
			for _, root := range roots {
				if !impl.TreeOK(f, root) {
					t.Fatal("root", root, "is no tree")
				}
				if root != from {
					wantNoCursor(t, "a path of another tree", f, root, cursorOf(path), impl.ErrBad)
				}
			}
		}
	}
}

func TestLongPaths(t *testing.T) {
	f, root := layTree(threeLevels)
	path := pathsOf(f, root)[5]
	for _, size := range []int{impl.MaxList, impl.MaxList + 1, 1 << 20} {
		long := slices.Concat(path, make([]impl.Step, size))
		wantNoCursor(t, "a long path", f, root, impl.Cursor{Path: long}, impl.ErrBad)
		wantNoCursor(t, "a long path", f, -1, impl.Cursor{Path: long}, impl.ErrBad)
		wantNoCursor(t, "a long path", f, root, impl.Cursor{Path: slices.Repeat([]impl.Step{{Node: root}}, size)}, impl.ErrBad)
	}
}

func TestCursorsOfNoTree(t *testing.T) {
	f := forest(leaf("b", "d"))
	for _, c := range []impl.Cursor{at(-1, 0), at(-1, -1), at(0, 0), at(0, 1), at(-1, 0, 0, 0), at(0, -1), at(math.MinInt, math.MinInt), at(math.MaxInt, 0)} {
		wantNoCursor(t, "no tree", f, -1, c, impl.ErrBad)
		wantNoCursor(t, "no nodes", impl.Forest{}, -1, c, impl.ErrBad)
	}
}

func TestCursorsOfWrongTrees(t *testing.T) {
	cursors := []impl.Cursor{{}, at(0, 0), at(2, 0, 0, 1), at(3, 0, 0, 0), at(4, 0), at(-1, 0)}
	for _, f := range wrongForests() {
		for _, root := range []int{math.MinInt, -2, -1, 0, 2, 3, 4, math.MaxInt} {
			wantNoSeek(t, "a wrong forest", f, root, "b", impl.ErrBad)
			for _, c := range cursors {
				wantNoCursor(t, "a wrong forest", f, root, c, impl.ErrBad)
			}
		}
	}
	f := forest(leaf("a"), leaf("b"), inner([]int{0, 1}, "b"))
	for _, root := range append(oddInts, 4, 600, 601) {
		if root == -1 || root == 0 || root == 1 {
			continue
		}
		wantNoSeek(t, "a wrong root", f, root, "", impl.ErrBad)
		for _, c := range []impl.Cursor{{}, at(root, 0), at(root, 0, 0, 0), at(0, 0), at(2, 1, 1, 0)} {
			wantNoCursor(t, "a wrong root", f, root, c, impl.ErrBad)
		}
	}
}

// A tree that is wrong in one place is wrong for a path that leads past it.
func TestCursorsBesideFaults(t *testing.T) {
	for _, s := range shapes {
		f, root := layTree(s.text)
		for _, path := range pathsOf(f, root) {
			if impl.CursorOK(f, root, cursorOf(path)) != s.ok {
				t.Errorf("%s: %v is %t", s.text, path, !s.ok)
			}
			if !s.ok {
				wantNoCursor(t, s.text, f, root, cursorOf(path), impl.ErrBad)
			}
		}
		if !s.ok {
			wantNoCursor(t, s.text, f, root, impl.Cursor{}, impl.ErrBad)
			wantNoSeek(t, s.text, f, root, "", impl.ErrBad)
		}
	}
	knot := knotted(impl.MaxNodes)
	for root := 1; root < impl.MaxNodes; root += 37 {
		wantNoSeek(t, "a knotted forest", knot, root, "a", impl.ErrBad)
		wantNoCursor(t, "a knotted forest", knot, root, at(root, 0, root-1, 0), impl.ErrBad)
	}
}

func TestBoundsOfSoughtKeys(t *testing.T) {
	full := padded(forest(leaf("b", "d"), leaf("f", "h"), inner([]int{0, 1}, "f")), impl.MaxNodes)
	for _, root := range []int{-1, 0, 2, impl.MaxNodes - 1} {
		for _, key := range []string{"", "b", longKey} {
			if _, got := impl.Seek(full, root, key); got != impl.OK {
				t.Errorf("root %d: %.10q is code %d", root, key, got)
			}
		}
		wantNoSeek(t, "a long key", full, root, longKey+"k", impl.ErrBad)
		wantNoSeek(t, "a long key", full, root, strings.Repeat("k", impl.MaxText), impl.ErrBad)
		wantNoSeek(t, "a key that is too long", full, root, strings.Repeat("k", impl.MaxText+1), impl.ErrLong)
	}
	wantNoSeek(t, "the last node and one more", full, impl.MaxNodes, "", impl.ErrBad)
	for _, f := range []impl.Forest{forest(impl.Node{}), padded(impl.Forest{}, impl.MaxNodes+1), padded(impl.Forest{}, impl.MaxList+1)} {
		for _, root := range oddInts {
			wantNoSeek(t, "a long key in a wrong forest", f, root, strings.Repeat("k", impl.MaxText), impl.ErrBad)
			wantNoSeek(t, "a key that is too long in a wrong forest", f, root, strings.Repeat("k", impl.MaxText+1), impl.ErrLong)
		}
	}
}

func TestEmptyKeysUnderCursors(t *testing.T) {
	f := forest(leaf("", "a"), leaf("b", "c"), inner([]int{0, 1}, "b"))
	for key, want := range map[string]string{"": "2.0 0.0", "\x00": "2.0 0.1", "a": "2.0 0.1", "aa": "2.1 1.0"} {
		if c, got := impl.Seek(f, 2, key); got != impl.OK || showCursor(c) != want {
			t.Errorf("%q: %v %d", key, c, got)
		}
	}
}
