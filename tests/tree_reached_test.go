package tests

import (
	"math"
	"slices"
	"testing"

	"loop.example/g00208/impl"
)

// rolledForest is a right one of random nodes, few of which are trees.
func rolledForest(d *dice, count int) impl.Forest {
	letters := []string{"a", "b", "c", "d", "e", "f"}
	var nodes []impl.Node
	for at := range count {
		from := d.below(len(letters))
		keys := letters[from:min(len(letters), from+1+d.below(impl.MaxKeys))]
		if at == 0 || d.below(2) == 0 {
			nodes = append(nodes, leaf(keys...))
			continue
		}
		var kids []int
		for range len(keys) + 1 {
			kids = append(kids, d.below(at))
		}
		nodes = append(nodes, inner(kids, keys...))
	}
	return forest(nodes...)
}

// reachedByWords takes nodes from the last one on: a node is there as a root, or as a kid of one that is.
func reachedByWords(f impl.Forest, roots []int) []int {
	there := slices.Clone(roots)
	for at := len(f.Nodes) - 1; at >= 0; at-- {
		if slices.Contains(there, at) {
			there = append(there, f.Nodes[at].Kids...)
		}
	}
	slices.Sort(there)
	return slices.DeleteFunc(slices.Compact(there), func(at int) bool { return at == -1 })
}

// checkReached holds Reached and Compact against the document's words.
func checkReached(t *testing.T, f impl.Forest, roots []int) {
	t.Helper()
	want := reachedByWords(f, roots)
	reached, got := impl.Reached(f, roots)
	code(t, "Reached", got, impl.OK)
	if !slices.Equal(reached, want) {
		t.Fatalf("%.300v from %v: %v, want %v", f, roots, reached, want)
	}
	small, moved, got := impl.Compact(f, roots)
	code(t, "Compact", got, impl.OK)
	if len(small.Nodes) != len(want) || len(moved) != len(roots) || !impl.ForestOK(small) {
		t.Fatalf("%.300v from %v: %.300v, roots %v", f, roots, small, moved)
	}
	for i, at := range want {
		node := cloneNode(f.Nodes[at])
		for k, kid := range node.Kids {
			node.Kids[k] = slices.Index(want, kid)
		}
		if !sameNode(small.Nodes[i], node) {
			t.Fatalf("%.300v from %v: node %d is %v, want %v", f, roots, i, small.Nodes[i], node)
		}
	}
	for i, root := range roots {
		if moved[i] != slices.Index(want, root) { // -1 is at -1
			t.Fatalf("%.300v from %v: roots %v", f, roots, moved)
		}
	}
}

func TestReachedNodes(t *testing.T) {
	d := &dice{state: 5}
	for i := range 400 {
		f := rolledForest(d, i%24)
		var roots []int
		for range d.below(5) {
			roots = append(roots, d.below(len(f.Nodes)+1)-1)
		}
		checkReached(t, f, roots)
	}
	two := forest(leaf("a", "b"), leaf("c", "d"), leaf("e", "f"), inner([]int{0, 1}, "c"), inner([]int{0, 2}, "c"), inner([]int{2, 2, 2}, "a", "b"))
	for _, roots := range [][]int{
		nil, {}, {-1}, {-1, -1, -1}, {0}, {3}, {4}, {3, 4}, {4, 3}, {4, 4, 4}, {4, -1, 3, -1, 4, 0}, {5}, {-1, 5}, {5, 4, 3, 2, 1, 0}, {0, 1, 2, 3, 4, 5},
	} {
		checkReached(t, two, roots)
	}
	checkReached(t, impl.Forest{}, nil)
	checkReached(t, impl.Forest{}, []int{-1, -1})
}

// Each node is gone into once, however many ways lead to it.
func TestReachedOfKnots(t *testing.T) {
	f := knotted(impl.MaxNodes)
	checkReached(t, f, []int{impl.MaxNodes - 1})
	checkReached(t, f, []int{0, 300, -1, 300})
	checkReached(t, f, run(0, impl.MaxNodes))
	many := slices.Repeat([]int{impl.MaxNodes - 1, 7}, impl.MaxList/2)
	checkReached(t, f, many)
	checkReached(t, f, slices.Repeat([]int{-1}, impl.MaxList))
}

func TestWrongRoots(t *testing.T) {
	f := forest(leaf("a", "b"), leaf("c", "d"), inner([]int{0, 1}, "c"))
	want := func(what string, f impl.Forest, roots []int, want int) {
		t.Helper()
		reached, got := impl.Reached(f, roots)
		code(t, what+": Reached", got, want)
		small, moved, got := impl.Compact(f, roots)
		code(t, what+": Compact", got, want)
		if len(reached) != 0 || !noForest(small) || len(moved) != 0 {
			t.Errorf("%s: a code, and %v %v %v", what, reached, small, moved)
		}
	}
	for _, root := range append(oddInts, 4) {
		if root >= -1 && root <= 2 {
			continue
		}
		want("a root out of range", f, []int{root}, impl.ErrRange)
		want("a first root out of range", f, []int{root, 1, -1}, impl.ErrRange)
		want("a last root out of range", f, []int{2, -1, root}, impl.ErrRange)
		want("a root of no nodes", impl.Forest{}, []int{-1, root}, impl.ErrRange)
	}
	want("a root of no nodes", impl.Forest{}, []int{0}, impl.ErrRange)
	want("a root behind a full forest", padded(f, impl.MaxNodes), []int{impl.MaxNodes - 1, impl.MaxNodes}, impl.ErrRange)
	want("many roots out of range", f, slices.Repeat([]int{3}, impl.MaxList), impl.ErrRange)
	want("too many roots", f, make([]int, impl.MaxList+1), impl.ErrLong)
	want("too many roots out of range", f, slices.Repeat([]int{math.MinInt}, impl.MaxList+1), impl.ErrLong)
	for _, wrong := range wrongForests() {
		want("a wrong forest", wrong, nil, impl.ErrBad)
		want("a wrong forest", wrong, []int{0, -1}, impl.ErrBad)
		want("a wrong forest and root", wrong, []int{-2, math.MaxInt}, impl.ErrBad)
		want("a wrong forest and many roots", wrong, make([]int, impl.MaxList), impl.ErrBad)
		want("a wrong forest and too many roots", wrong, make([]int, impl.MaxList+1), impl.ErrLong)
	}
}

// Roots of Reached and Compact need be no trees.
func TestReachedOfNoTrees(t *testing.T) {
	f := forest(leaf("z"), leaf("a"), inner([]int{0, 1}, "c"), inner([]int{2, 0}, "b"))
	if impl.TreeOK(f, 2) || impl.TreeOK(f, 3) {
		t.Fatal("they are trees")
	}
	checkReached(t, f, []int{3, 2})
	checkReached(t, f, []int{2})
}
