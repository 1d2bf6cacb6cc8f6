package tests

import (
	"fmt"
	"slices"
	"strings"
	"testing"

	"loop.example/g00208/impl"
)

// at is a cursor by its steps, a node and a place by turns, with room behind its end.
func at(steps ...int) impl.Cursor {
	var path []impl.Step
	for i := 0; i+1 < len(steps); i += 2 {
		path = append(path, impl.Step{Node: steps[i], At: steps[i+1]})
	}
	return cursorOf(path)
}

func cursorOf(path []impl.Step) impl.Cursor {
	return impl.Cursor{Path: roomy(path, impl.Step{Node: 77, At: 77})}
}

// showCursor has each step's node and place.
func showCursor(c impl.Cursor) string {
	var words []string
	for _, s := range c.Path {
		words = append(words, fmt.Sprintf("%d.%d", s.Node, s.At))
	}
	return strings.Join(words, " ")
}

// pathsOf are all paths from a root to keys of leaves, in the order of kids and keys.
func pathsOf(f impl.Forest, root int) [][]impl.Step {
	if root == -1 {
		return nil
	}
	var list [][]impl.Step
	n := f.Nodes[root]
	if n.Leaf {
		for i := range n.Keys {
			list = append(list, []impl.Step{{Node: root, At: i}})
		}
		return list
	}
	for i, kid := range n.Kids {
		for _, below := range pathsOf(f, kid) {
			list = append(list, append([]impl.Step{{Node: root, At: i}}, below...))
		}
	}
	return list
}

func hasPath(list [][]impl.Step, path []impl.Step) bool {
	return slices.ContainsFunc(list, func(other []impl.Step) bool { return slices.Equal(other, path) })
}

// wantNoCursor asks all calls on a cursor for a code and nothing else.
func wantNoCursor(t *testing.T, what string, f impl.Forest, root int, c impl.Cursor, want int) {
	t.Helper()
	e, got := impl.CursorEntry(f, root, c)
	code(t, what+": CursorEntry", got, want)
	next, got := impl.CursorNext(f, root, c)
	code(t, what+": CursorNext", got, want)
	back, got := impl.CursorBack(f, root, c)
	code(t, what+": CursorBack", got, want)
	if e != (impl.Entry{}) || len(next.Path) != 0 || len(back.Path) != 0 {
		t.Errorf("%.200s: a code, and more than that", what)
	}
	if ok := impl.CursorOK(f, root, c); ok != (want == impl.ErrNone) {
		t.Errorf("%.200s: CursorOK is %t", what, ok)
	}
}

func wantNoSeek(t *testing.T, what string, f impl.Forest, root int, key string, want int) {
	t.Helper()
	c, got := impl.Seek(f, root, key)
	code(t, what+": Seek", got, want)
	if len(c.Path) != 0 {
		t.Errorf("%.200s: a code, and %v", what, c)
	}
}

func named(name string, root int) impl.Named { return impl.Named{Name: name, Root: root} }

// names has room behind its end.
func names(list ...impl.Named) []impl.Named { return roomy(list, named("behind", 77)) }

// manyNames are as many, rising, all of no tree.
func manyNames(count int) []impl.Named {
	var list []impl.Named
	for i := range count {
		list = append(list, named(fmt.Sprintf("n%05d", i), -1))
	}
	return names(list...)
}

// wantNoNames asks all calls with a name for a code and nothing else.
func wantNoNames(t *testing.T, what string, f impl.Forest, list []impl.Named, name string, root, want int) {
	t.Helper()
	put, got := impl.NamedPut(f, list, name, root)
	code(t, what+": NamedPut", got, want)
	dropped, got := impl.NamedDrop(f, list, name)
	code(t, what+": NamedDrop", got, want)
	found, got := impl.NamedRoot(f, list, name)
	code(t, what+": NamedRoot", got, want)
	if len(put) != 0 || len(dropped) != 0 || found != 0 {
		t.Errorf("%.200s: a code, and more than that", what)
	}
}
