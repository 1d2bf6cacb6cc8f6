package tests

import (
	"math"
	"slices"
	"strings"
	"testing"

	"loop.example/g00208/impl"
)

var (
	longKey   = strings.Repeat("k", impl.MaxKey)
	longValue = strings.Repeat("v", impl.MaxDatum)
)

// oddInts are numbers that no node has, and some that nodes have.
var oddInts = []int{math.MinInt, math.MinInt + 1, -1 << 32, -2, -1, 0, 1, 2, 3, 1<<32 - 1, 1 << 32, math.MaxInt - 1, math.MaxInt}

// knotted has nodes whose kids are all the one ahead: very many ways lead down.
func knotted(count int) impl.Forest {
	nodes := []impl.Node{leaf("a", "b")}
	for at := 1; at < count; at++ {
		last := at - 1
		nodes = append(nodes, inner([]int{last, last, last, last, last}, "a", "b", "c", "d"))
	}
	return forest(nodes...)
}

func rightForests() []impl.Forest {
	return []impl.Forest{
		{}, {Nodes: []impl.Node{}}, forest(leaf("a")), forest(leaf("a", "b", "c", "d")), forest(leaf("")), forest(leaf("", "\x00", "\x00\x00", "\xff")),
		forest(leaf(longKey)), forest(leaf("a", longKey)), forest(impl.Node{Leaf: true, Keys: []string{"a", "b"}, Vals: []string{"", longValue}}),
		forest(impl.Node{Leaf: true, Keys: []string{"a"}, Vals: []string{"x"}, Kids: []int{}}),
		forest(leaf("a"), inner([]int{0, 0}, "b")), forest(leaf("z"), leaf("a"), inner([]int{1, 0}, "b"), inner([]int{2, 0, 2, 1, 0}, "", "a", "b", longKey)),
		forest(leaf("a"), impl.Node{Keys: []string{"b"}, Vals: []string{}, Kids: []int{0, 0}}),
		padded(impl.Forest{}, impl.MaxNodes), knotted(impl.MaxNodes),
	}
}

// wrongNodes are wrong each for one reason, behind two leaves and a node above them.
func wrongNodes() []impl.Node {
	five := []string{"a", "b", "c", "d", "e"}
	node := func(keys []string, values []string, kids ...int) impl.Node {
		return impl.Node{Keys: keys, Vals: values, Kids: kids}
	}
	list := []impl.Node{
		{}, {Leaf: true}, {Leaf: true, Keys: []string{}, Vals: []string{}}, node(nil, nil, 0), node([]string{}, nil, 0), node(nil, nil, 0, 1),
		leaf(five...), leaf("b", "a"), leaf("a", "a"), leaf("a", "b", "b"), leaf("a", "c", "b"), leaf("", ""), leaf("b", "c", "d", "a"), leaf("aa", "a"),
		leaf("\xff", "a"), leaf(longKey + "k"), leaf("a", longKey+"k"), leaf(strings.Repeat("k", impl.MaxText+1)),
		{Leaf: true, Keys: []string{"a"}, Vals: []string{longValue + "v"}}, {Leaf: true, Keys: []string{"a", "b"}, Vals: []string{"", longValue + "v"}},
		{Leaf: true, Keys: []string{"a"}}, {Leaf: true, Keys: []string{"a", "b"}, Vals: []string{"x"}}, {Leaf: true, Keys: []string{"a"}, Vals: []string{"x", "y"}},
		{Leaf: true, Keys: []string{"a"}, Vals: []string{"x"}, Kids: []int{0}}, {Leaf: true, Keys: []string{"a"}, Vals: []string{"x"}, Kids: []int{0, 1}},
		{Leaf: true, Keys: []string{"a"}, Kids: []int{0, 1}}, node([]string{"a"}, []string{"x"}, 0, 1), node([]string{"a"}, []string{"x"}),
		node([]string{"c"}, []string{""}, 0, 1), node([]string{"a"}, nil), node([]string{"a"}, nil, 0), node([]string{"a"}, nil, 0, 1, 2),
		node([]string{"a", "b"}, nil, 0, 1), node(five, nil, 0, 1, 2, 0, 1, 2), node([]string{"b", "a"}, nil, 0, 1, 2), node([]string{"a", "a"}, nil, 0, 1, 2),
		node([]string{longKey + "k"}, nil, 0, 1), node([]string{"a"}, nil, 0, 3), node([]string{"a"}, nil, 3, 0), node([]string{"a"}, nil, 0, 4), node([]string{"a"}, nil, 5, 1),
	}
	for _, kid := range oddInts {
		if kid < 0 || kid > 2 {
			list = append(list, node([]string{"a"}, nil, 0, kid), node([]string{"a"}, nil, kid, 0))
		}
	}
	return append(list, impl.Node{Leaf: true, Keys: make([]string, impl.MaxList+1), Vals: make([]string, impl.MaxList+1)}, node([]string{"a"}, nil, make([]int, impl.MaxList+1)...))
}

func wrongForests() []impl.Forest {
	list := []impl.Forest{padded(impl.Forest{}, impl.MaxNodes+1), knotted(impl.MaxNodes + 1), padded(impl.Forest{}, impl.MaxList+1)}
	for _, n := range wrongNodes() {
		list = append(list, forest(leaf("a", "b"), leaf("c", "d"), inner([]int{0, 1}, "c"), n, leaf("e")))
	}
	return append(list, forest(inner([]int{0, 0}, "a")), forest(inner([]int{1, 1}, "a"), leaf("a")), forest(impl.Node{}))
}

func TestForestOK(t *testing.T) {
	for _, f := range rightForests() {
		if !impl.ForestOK(f) {
			t.Errorf("%.300v is not right", f)
		}
		if !impl.TreeOK(f, -1) {
			t.Errorf("%.300v: no tree is none", f)
		}
	}
	for _, f := range wrongForests() {
		if impl.ForestOK(f) {
			t.Errorf("%.300v is right", f)
		}
		for _, root := range oddInts {
			if impl.TreeOK(f, root) {
				t.Errorf("%.300v has a tree", f)
			}
		}
	}
}

func TestRoots(t *testing.T) {
	f := forest(leaf("a"), leaf("b", "c"), leaf("d", "e"), inner([]int{1, 2}, "d"))
	for _, root := range oddInts {
		if want := root >= -1 && root <= 3; impl.TreeOK(f, root) != want {
			t.Error("root", root, "is", !want)
		}
		if want := root == -1; impl.TreeOK(impl.Forest{}, root) != want {
			t.Error("root", root, "of no nodes is", !want)
		}
	}
	if impl.TreeOK(f, 4) || impl.TreeOK(f, 5) {
		t.Error("a root behind the nodes, or behind what stands there")
	}
	full := padded(f, impl.MaxNodes)
	if !impl.TreeOK(full, 3) || !impl.TreeOK(full, impl.MaxNodes-1) || impl.TreeOK(full, impl.MaxNodes) {
		t.Error("roots of a full forest")
	}
}

// shapes are trees, or not, by one reason each.
var shapes = []struct {
	text string
	ok   bool
}{
	{"a", true}, {"abcd", true}, {"(ab c cd)", true}, {"(ab c de)", true}, {"(ab d ef)", true}, {"(ab c cd e ef g gh i ij)", true},
	{"(ab c bd)", false}, {"(ac c cd)", false}, {"(ad c de)", false}, {"(ab c ab)", false}, {"(cd c ab)", false}, {"(cd b ef)", false},
	{"(ab c cd e de)", false}, {"(ab c ce e ef)", false}, {"(ab c cf e ef)", false}, {"(ab c cd e df)", false}, {"(ab c bd e ef)", false},
	{"(a c cd)", false}, {"(ab c c)", false}, {"(ab c c e ef)", false}, {"(ab c cd e e)", false}, {"(a b b)", false},
	{"((ab c cd e ef) g (gh i ij k kl))", true}, {"((ab c cd e eg) g (gh i ij k kl))", false}, {"((ab c cd e ef) g (fh i ij k kl))", false},
	{"((ab c cd) g (gh i ij k kl))", false}, {"((ab c cd e ef) g (gh i ij))", false}, {"((ab c cd) e (ef g gh))", false},
	{"((ab c cd e ef) g gh)", false}, {"(ab c (cd e ef g gh))", false}, {"((ab c cd e ef) g gh i (ij k kl m mn))", false},
	{"(ab c (cd e ef g gh) i ij)", false}, {"((ab d cd e ef) g (gh i ij k kl))", false}, {"((ab c cd h ef) g (gh i ij k kl))", false},
	{"((ab c cd e ef) g (gh f ij k kl))", false}, {"((ab c cd e (fg h hi j jk)) l (lm n no p pq))", false},
}

func TestShapes(t *testing.T) {
	for _, s := range shapes {
		f, root := layTree(s.text)
		if !impl.ForestOK(f) {
			t.Fatalf("%s is not right", s.text)
		}
		if impl.TreeOK(f, root) != s.ok {
			t.Errorf("%s is %t", s.text, !s.ok)
		}
		levels, got := impl.TreeDepth(f, root)
		if want := 1 + len(s.text) - len(strings.TrimLeft(s.text, "(")); s.ok && (levels != want || got != impl.OK) {
			t.Errorf("%s has %d levels, code %d", s.text, levels, got)
		}
		if !s.ok {
			wantNothing(t, s.text, f, root, "a", "v", impl.ErrBad)
		}
	}
}

// wantNothing asks all calls for a code and nothing else.
func wantNothing(t *testing.T, what string, f impl.Forest, root int, key, value string, want int) {
	t.Helper()
	found, got := impl.TreeFind(f, root, key)
	code(t, what+": TreeFind", got, want)
	put, top, got := impl.TreePut(f, root, key, value)
	code(t, what+": TreePut", got, want)
	dropped, down, got := impl.TreeDrop(f, root, key)
	code(t, what+": TreeDrop", got, want)
	list, got := impl.TreeList(f, root, key, value)
	code(t, what+": TreeList from", got, want)
	other, got := impl.TreeList(f, root, value, key)
	code(t, what+": TreeList to", got, want)
	if found != "" || !noForest(put) || top != 0 || !noForest(dropped) || down != 0 || len(list) != 0 || len(other) != 0 {
		t.Errorf("%.200s: a code, and more than that", what)
	}
}

func TestWrongTrees(t *testing.T) {
	for _, f := range wrongForests() {
		for _, root := range []int{math.MinInt, -2, -1, 0, 2, 3, math.MaxInt} {
			wantNothing(t, "a wrong forest", f, root, "a", "v", impl.ErrBad)
			levels, got := impl.TreeDepth(f, root)
			code(t, "TreeDepth", got, impl.ErrBad)
			if levels != 0 {
				t.Error("TreeDepth has a code and", levels)
			}
		}
	}
	f := forest(leaf("a"), leaf("b"), inner([]int{0, 1}, "b"))
	for _, root := range append(oddInts, 4, 600, 601) {
		if root == -1 || root == 0 || root == 1 {
			continue
		}
		wantNothing(t, "a wrong root", f, root, "a", "v", impl.ErrBad)
		levels, got := impl.TreeDepth(f, root)
		code(t, "TreeDepth", got, impl.ErrBad)
		if levels != 0 {
			t.Error("TreeDepth has a code and", levels)
		}
	}
	knot := knotted(impl.MaxNodes)
	for root := 1; root < impl.MaxNodes; root += 7 {
		wantNothing(t, "a knotted forest", knot, root, "a", "v", impl.ErrBad)
	}
}

func TestBoundsOfKeysAndValues(t *testing.T) {
	f := forest(leaf("a"))
	for _, root := range []int{-1, 0} {
		for _, key := range []string{longKey, "a", "\x00", "\xff"} {
			next, top, got := impl.TreePut(f, root, key, longValue)
			code(t, "TreePut", got, impl.OK)
			found, got := impl.TreeFind(next, top, key)
			if found != longValue || got != impl.OK {
				t.Errorf("%q: found %q %d", key, found, got)
			}
			next, top, got = impl.TreePut(next, top, key, "")
			code(t, "TreePut", got, impl.OK)
			if found, got = impl.TreeFind(next, top, key); found != "" || got != impl.OK {
				t.Errorf("%q: found %q %d", key, found, got)
			}
		}
		for _, key := range []string{longKey + "k", strings.Repeat("k", impl.MaxText)} {
			wantNothing(t, "a long key", f, root, key, "v", impl.ErrBad)
		}
		for _, value := range []string{longValue + "v", strings.Repeat("v", impl.MaxText)} {
			next, top, got := impl.TreePut(f, root, "a", value)
			code(t, "a long value", got, impl.ErrBad)
			if !noForest(next) || top != 0 {
				t.Error("a code, and", next, top)
			}
		}
		_, got := impl.TreeFind(f, root, "")
		code(t, "TreeFind of no key", got, impl.ErrBad)
		_, _, got = impl.TreePut(f, root, "", "v")
		code(t, "TreePut of no key", got, impl.ErrBad)
		next, top, got := impl.TreeDrop(f, root, "")
		code(t, "TreeDrop of no key", got, impl.ErrBad)
		if !noForest(next) || top != 0 {
			t.Error("a code, and", next, top)
		}
	}
}

// A full forest is looked at last.
func TestFaultsAheadOfRoom(t *testing.T) {
	full := padded(impl.Forest{}, impl.MaxNodes)
	for _, root := range []int{-2, -1, 0, impl.MaxNodes - 1, impl.MaxNodes} {
		for _, e := range []impl.Entry{{}, {Value: "v"}, {Key: longKey + "k"}, {Key: "a", Value: longValue + "v"}, {Key: "a", Value: "v"}} {
			want := impl.ErrBad
			if e.Value == "v" && e.Key == "a" && root >= -1 && root < impl.MaxNodes {
				want = impl.ErrFull
			}
			next, top, got := impl.TreePut(full, root, e.Key, e.Value)
			code(t, "TreePut into a full forest", got, want)
			if !noForest(next) || top != 0 {
				t.Error("a code, and", top)
			}
		}
	}
}

// Texts that are too long come ahead of all other faults.
func TestLongTextsOfTrees(t *testing.T) {
	long := strings.Repeat("k", impl.MaxText+1)
	for _, f := range []impl.Forest{{}, forest(leaf("a")), forest(impl.Node{}), padded(impl.Forest{}, impl.MaxNodes), padded(impl.Forest{}, impl.MaxList+1)} {
		for _, root := range []int{math.MinInt, -1, 0, math.MaxInt} {
			for _, other := range []string{"", "a", longValue + "v", long} {
				wantNothing(t, "a text that is too long", f, root, long, other, impl.ErrLong)
				next, top, got := impl.TreePut(f, root, other, long)
				code(t, "a value that is too long", got, impl.ErrLong)
				if !noForest(next) || top != 0 {
					t.Error("a code, and", next, top)
				}
			}
		}
	}
}

func TestEmptyKeysWithinNodes(t *testing.T) {
	f := forest(leaf("", "a"), leaf("b", "c"), inner([]int{0, 1}, "b"), inner([]int{0, 1}, ""))
	if !impl.TreeOK(f, 0) || !impl.TreeOK(f, 2) || impl.TreeOK(f, 3) {
		t.Error("a node may have an empty key, but no key is below it")
	}
	list, got := impl.TreeList(f, 2, "", "b")
	if got != impl.OK || len(list) != 2 || list[0].Key != "" || list[1].Key != "a" {
		t.Error("TreeList", list, got)
	}
	_, got = impl.TreeFind(f, 2, "")
	code(t, "TreeFind", got, impl.ErrBad)
}

func TestDepths(t *testing.T) {
	levels, got := impl.TreeDepth(impl.Forest{}, -1)
	if levels != 0 || got != impl.OK {
		t.Error("no tree", levels, got)
	}
	for text, want := range map[string]int{"a": 1, "(ab c cd)": 2, "((ab c cd e ef) g (gh i ij k kl))": 3} {
		f, root := layTree(text)
		if levels, got := impl.TreeDepth(f, root); levels != want || got != impl.OK {
			t.Error(text, levels, got)
		}
		if levels, got := impl.TreeDepth(f, -1); levels != 0 || got != impl.OK {
			t.Error("no tree", levels, got)
		}
	}
}

func TestLists(t *testing.T) {
	keys := []string{"a", "b", "d", "e", "f", "h", "i", "k", "l", "m", "p"}
	f, root := grown(keys...)
	bounds := append([]string{"", "A", "a\x00", "c", "g", "j", "o", "z", "\x00", "\xff", longKey}, keys...)
	for _, from := range bounds {
		for _, to := range bounds {
			var want []impl.Entry
			for _, key := range keys {
				if key >= from && (to == "" || key < to) {
					want = append(want, impl.Entry{Key: key, Value: valueOf(key)})
				}
			}
			if list, got := impl.TreeList(f, root, from, to); got != impl.OK || !slices.Equal(list, want) {
				t.Errorf("from %q to %q: %v %d, want %v", from, to, list, got, want)
			}
			if list, got := impl.TreeList(f, -1, from, to); got != impl.OK || len(list) != 0 {
				t.Errorf("from %q to %q of no tree: %v %d", from, to, list, got)
			}
		}
		for _, c := range []struct {
			bound string
			want  int
		}{{longKey + "k", impl.ErrBad}, {strings.Repeat("k", impl.MaxText), impl.ErrBad}, {strings.Repeat("k", impl.MaxText+1), impl.ErrLong}} {
			list, got := impl.TreeList(f, root, from, c.bound)
			code(t, "a long bound", got, c.want)
			other, got := impl.TreeList(f, root, c.bound, from)
			code(t, "a long bound", got, c.want)
			if len(list) != 0 || len(other) != 0 {
				t.Error("a code, and", list, other)
			}
		}
	}
}
