package tests

import (
	"math"
	"slices"
	"testing"

	"loop.example/g00208/impl"
)

// cursorCalls are all calls of chapter 7 on a forest.
func cursorCalls(f impl.Forest, root int, key string, c impl.Cursor, list []impl.Named) []func() []any {
	return []func() []any{
		func() []any { c, code := impl.Seek(f, root, key); return []any{c, code} },
		func() []any { return []any{impl.CursorOK(f, root, c), impl.NamesOK(f, list)} },
		func() []any { e, code := impl.CursorEntry(f, root, c); return []any{e, code} },
		func() []any { c, code := impl.CursorNext(f, root, c); return []any{c, code} },
		func() []any { c, code := impl.CursorBack(f, root, c); return []any{c, code} },
		func() []any { l, code := impl.NamedPut(f, list, key, root); return []any{l, code} },
		func() []any { l, code := impl.NamedDrop(f, list, key); return []any{l, code} },
		func() []any { r, code := impl.NamedRoot(f, list, key); return []any{r, code} },
	}
}

func askedOfCursors() []func() []any {
	var calls []func() []any
	lists := slices.Concat(rightNames(), wrongNames())
	for i, f := range slices.Concat(someTrees(), rightForests(), wrongForests(), []impl.Forest{trees()}) {
		for k, root := range []int{math.MinInt, -1, 0, len(f.Nodes) - 1, len(f.Nodes), math.MaxInt} {
			calls = append(calls, cursorCalls(f, root, "c", at(root, 0), lists[(6*i+k)%len(lists)])...)
			calls = append(calls, cursorCalls(f, root, "", at(root, 0, 0, 0), nil)...)
		}
	}
	for _, list := range lists {
		calls = append(calls, cursorCalls(trees(), 3, "a", at(3, 1, 1, 0), list)...)
	}
	return calls
}

func TestCursorsAndNamesStay(t *testing.T) {
	for _, text := range []string{"", "bdfh", "(bd f fgh j jl)", threeLevels} {
		f, root := layTree(text)
		before := cloneForest(behindForest(f))
		list := names(named("a", root), named("c", -1), named("e", root))
		whole := slices.Clone(list[:cap(list)])
		for _, path := range append(pathsOf(f, root), nil, []impl.Step{{Node: root, At: 9}}, make([]impl.Step, 9)) {
			c := cursorOf(path)
			steps := slices.Clone(c.Path[:cap(c.Path)])
			for _, key := range []string{"", "a", "b", "c", "e", "z"} {
				for _, call := range cursorCalls(f, root, key, c, list) {
					call()
				}
			}
			if !slices.Equal(c.Path[:cap(c.Path)], steps) || !slices.Equal(list[:cap(list)], whole) || !sameForest(behindForest(f), before) {
				t.Fatalf("%s: %v, %v, or the forest was changed", text, steps, whole)
			}
		}
	}
	for _, list := range slices.Concat(rightNames(), wrongNames()) {
		whole := slices.Clone(list[:cap(list)])
		for _, call := range cursorCalls(trees(), 0, "a", impl.Cursor{}, list) {
			call()
		}
		if !slices.Equal(list[:cap(list)], whole) {
			t.Fatalf("%.200v was changed", whole)
		}
	}
}

// A cursor is written over behind a step, and the one that was made of it stays; and the other way round.
func TestCursorsAreNewMemory(t *testing.T) {
	junk := impl.Step{Node: -9, At: -9}
	for _, text := range []string{"b", "bdfh", "(bd f fgh j jl)", threeLevels} {
		f, root := layTree(text)
		for _, path := range pathsOf(f, root) {
			for _, step := range []func(impl.Forest, int, impl.Cursor) (impl.Cursor, int){impl.CursorNext, impl.CursorBack} {
				c := cursorOf(path)
				made, _ := step(f, root, c)
				want := slices.Clone(made.Path)
				scribbleList(c.Path[:cap(c.Path)], junk)
				if !slices.Equal(made.Path, want) {
					t.Fatalf("%s: what is behind %v is of the argument", text, path)
				}
				c = cursorOf(path)
				made, _ = step(f, root, c)
				scribbleList(made.Path[:cap(made.Path)], junk)
				if !slices.Equal(c.Path, path) || c.Path[:len(path)+1][len(path)] != (impl.Step{Node: 77, At: 77}) {
					t.Fatalf("%s: %v was written over", text, path)
				}
			}
		}
	}
}

func TestSoughtCursorsAreNewMemory(t *testing.T) {
	for _, s := range seeks {
		f, root := layTree(s.tree)
		before := cloneForest(behindForest(f))
		first, _ := impl.Seek(f, root, s.key)
		scribbleList(first.Path[:cap(first.Path)], impl.Step{Node: -9, At: -9})
		again, _ := impl.Seek(f, root, s.key)
		if showCursor(again) != s.path || !sameForest(behindForest(f), before) {
			t.Fatalf("%q in %s: %v behind a cursor that was written over", s.key, s.tree, again)
		}
		scribbleForest(f)
		if showCursor(again) != s.path {
			t.Fatalf("%q in %s: the cursor is of the forest", s.key, s.tree)
		}
	}
}

func TestNamesAreNewMemory(t *testing.T) {
	junk := named("scribbled", -9)
	f := trees()
	for _, change := range []func([]impl.Named) ([]impl.Named, int){
		func(list []impl.Named) ([]impl.Named, int) { return impl.NamedPut(f, list, "a", 1) },
		func(list []impl.Named) ([]impl.Named, int) { return impl.NamedPut(f, list, "zz", 1) },
		func(list []impl.Named) ([]impl.Named, int) { return impl.NamedPut(f, list, "b", 3) },
		func(list []impl.Named) ([]impl.Named, int) { return impl.NamedPut(f, list, "b", 0) },
		func(list []impl.Named) ([]impl.Named, int) { return impl.NamedDrop(f, list, "b") },
		func(list []impl.Named) ([]impl.Named, int) { return impl.NamedDrop(f, list, "d") },
	} {
		for _, size := range []int{2, 3} {
			fresh := func() []impl.Named { return names(named("b", 0), named("d", 1), named("f", -1))[:size] }
			list := fresh()
			whole := slices.Clone(list[:cap(list)])
			made, got := change(list)
			code(t, "change of names", got, impl.OK)
			want := slices.Clone(made)
			scribbleList(made[:cap(made)], junk)
			if !slices.Equal(list[:cap(list)], whole) {
				t.Fatalf("%v was written over", list)
			}
			made, _ = change(list)
			scribbleList(list[:cap(list)], junk)
			if !slices.Equal(made, want) {
				t.Fatalf("%v is of the argument, want %v", made, want)
			}
		}
	}
}
