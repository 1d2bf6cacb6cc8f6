package tests

import (
	"math"
	"slices"
	"testing"

	"loop.example/g00208/impl"
)

// someTrees are forests with a root that is a tree, some with nodes that are of no use.
func someTrees() []impl.Forest {
	list := []impl.Forest{forest(), forest(leaf("a")), forest(leaf("b", "c"), leaf("x"), leaf("e", "f"), inner([]int{0, 2}, "d"))}
	for _, c := range append(puts[8:], drops...) {
		f, _ := layTree(c.before)
		list = append(list, forest(slices.Concat(f.Nodes, f.Nodes)...))
	}
	return list
}

// treeCalls are all calls of chapter 6 on a forest.
func treeCalls(f impl.Forest, root int, key string) []func() []any {
	roots := roomy([]int{root, -1, root}, 77)
	return []func() []any{
		func() []any { return []any{impl.ForestOK(f), impl.TreeOK(f, root)} },
		func() []any { v, c := impl.TreeFind(f, root, key); return []any{v, c} },
		func() []any { g, r, c := impl.TreePut(f, root, key, "new"); return []any{g, r, c} },
		func() []any { g, r, c := impl.TreeDrop(f, root, key); return []any{g, r, c} },
		func() []any { l, c := impl.TreeList(f, root, "", key); return []any{l, c} },
		func() []any { l, c := impl.TreeList(f, root, key, ""); return []any{l, c} },
		func() []any { n, c := impl.TreeDepth(f, root); return []any{n, c} },
		func() []any { l, c := impl.Reached(f, roots); return []any{l, c} },
		func() []any { g, l, c := impl.Compact(f, roots); return []any{g, l, c} },
	}
}

func askedOfTrees() []func() []any {
	var calls []func() []any
	for _, f := range slices.Concat(someTrees(), rightForests(), wrongForests()) {
		for _, root := range []int{math.MinInt, -1, 0, len(f.Nodes) - 1, len(f.Nodes), math.MaxInt} {
			calls = append(calls, treeCalls(f, root, "c")...)
		}
	}
	for _, count := range []int{0, 1, 5, 60, impl.MaxList, impl.MaxList + 1} {
		calls = append(calls, func() []any { f, r, c := impl.BuildTree(risingEntries(count)); return []any{f, r, c} })
	}
	return calls
}

func TestForestsStay(t *testing.T) {
	for _, f := range slices.Concat(someTrees(), rightForests(), wrongForests()) {
		before := cloneForest(behindForest(f))
		for root := len(f.Nodes); root >= len(f.Nodes)-3 && root >= -1; root-- {
			for _, key := range []string{"a", "c", "e", "h", "l", "s", "z"} {
				for _, call := range treeCalls(f, root, key) {
					call()
				}
			}
		}
		if !sameForest(behindForest(f), before) {
			t.Fatalf("%.300v was changed", before)
		}
	}
	roots := []int{3, -1, 0, 3, 77, 77}
	list := risingEntries(40)
	impl.Reached(someTrees()[2], roots[:4])
	impl.Compact(someTrees()[2], roots[:4])
	impl.BuildTree(list[:38])
	if !slices.Equal(roots, []int{3, -1, 0, 3, 77, 77}) || !slices.Equal(list, risingEntries(40)) {
		t.Error("lists were changed", roots, list)
	}
}

// changesOf are calls that answer a forest, each on a forest of its own.
func changesOf() []func() (arg, made impl.Forest) {
	var list []func() (impl.Forest, impl.Forest)
	for _, c := range puts {
		list = append(list, func() (impl.Forest, impl.Forest) {
			f, root := layTree(c.before)
			next, _, _ := impl.TreePut(f, root, c.key, "new")
			return f, next
		})
	}
	for _, c := range drops {
		list = append(list, func() (impl.Forest, impl.Forest) {
			f, root := layTree(c.before)
			next, _, _ := impl.TreeDrop(f, root, c.key)
			return f, next
		}, func() (impl.Forest, impl.Forest) {
			f, root := layTree(c.before)
			small, _, _ := impl.Compact(f, []int{root})
			return f, small
		})
	}
	return append(list, func() (impl.Forest, impl.Forest) {
		f, _, _ := impl.BuildTree(risingEntries(30))
		return impl.Forest{}, f
	})
}

func TestForestsAreNewMemory(t *testing.T) {
	for i, change := range changesOf() {
		f, made := change()
		before, want := cloneForest(behindForest(f)), cloneForest(made)
		scribbleForest(made)
		if !sameForest(behindForest(f), before) {
			t.Fatalf("change %d: the answer is of the argument", i)
		}
		f, made = change()
		scribbleForest(f)
		if !sameForest(made, want) {
			t.Fatalf("change %d: the answer is changed with the argument", i)
		}
	}
}

// Each list of a forest that is answered is written over alone: all others stay.
func TestListsOfForestsShareNothing(t *testing.T) {
	for i, change := range changesOf() {
		_, made := change()
		whole := cloneForest(made)
		for at, n := range made.Nodes {
			scribbleList(n.Keys[:cap(n.Keys)], "scribbled")
			scribbleList(whole.Nodes[at].Keys, "scribbled")
			if !sameForest(made, whole) {
				t.Fatalf("change %d: keys of node %d are of another one's memory", i, at)
			}
			scribbleList(n.Vals[:cap(n.Vals)], "written over")
			scribbleList(whole.Nodes[at].Vals, "written over")
			scribbleList(n.Kids[:cap(n.Kids)], -9)
			scribbleList(whole.Nodes[at].Kids, -9)
			if !sameForest(made, whole) {
				t.Fatalf("change %d: values or kids of node %d are of another one's memory", i, at)
			}
		}
	}
}

func TestListsOfTreesAreNewMemory(t *testing.T) {
	for _, f := range someTrees() {
		before := cloneForest(behindForest(f))
		root := len(f.Nodes) - 1
		if len(f.Nodes) > 4 { // twice the same nodes: the first half has the tree
			root = len(f.Nodes)/2 - 1
		}
		roots := roomy([]int{root, -1, root}, 77)
		entries, _ := impl.TreeList(f, root, "", "")
		reached, _ := impl.Reached(f, roots)
		small, moved, got := impl.Compact(f, roots)
		code(t, "Compact", got, impl.OK)
		want, wanted := slices.Clone(reached), cloneForest(small)
		scribbleList(entries[:cap(entries)], impl.Entry{Key: "scribbled"})
		scribbleList(moved[:cap(moved)], -9)
		if !slices.Equal(reached, want) || !sameForest(small, wanted) {
			t.Fatalf("%v: lists share memory", f)
		}
		scribbleList(reached[:cap(reached)], -9)
		if !sameForest(behindForest(f), before) || !slices.Equal(roots[:5], []int{root, -1, root, 77, 77}) {
			t.Fatalf("%v: lists are of the arguments", f)
		}
		again, _ := impl.Reached(f, roots)
		_, moved, _ = impl.Compact(f, roots)
		scribbleForest(f)
		scribbleList(roots, 88)
		if !slices.Equal(again, want) || len(moved) != 3 || moved[1] != -1 || moved[0] != moved[2] || moved[0] == 88 {
			t.Fatalf("%v: lists are changed with the arguments", f)
		}
	}
}
