package tests

import (
	"testing"

	"loop.example/g00208/impl"
)

// change is a tree, a key that is put or dropped, the tree that is there then, and the new nodes in their order.
type change struct{ before, key, after, made string }

// Nodes of before are 0 up to the root; in what is made kids have their numbers.
var puts = []change{
	{"", "a", "a", "a"},
	{"b", "a", "ab", "ab"}, {"b", "c", "bc", "bc"}, {"b", "b", "b", "b"},
	{"abd", "c", "abcd", "abcd"}, {"abc", "d", "abcd", "abcd"}, {"bcd", "a", "abcd", "abcd"},
	{"abcd", "a", "abcd", "abcd"}, {"abcd", "c", "abcd", "abcd"}, {"abcd", "d", "abcd", "abcd"},
	// a leaf that is the root and becomes two
	{"abcd", "e", "(ab c cde)", "ab, cde, 1 c 2"}, {"bcde", "a", "(ab c cde)", "ab, cde, 1 c 2"}, {"abde", "c", "(ab c cde)", "ab, cde, 1 c 2"},
	{"acde", "b", "(ab c cde)", "ab, cde, 1 c 2"}, {"abce", "d", "(ab c cde)", "ab, cde, 1 c 2"},
	// a kid that stays one: first, within, last; the key of a parent belongs to the kid behind it
	{"(ac d de g gi)", "b", "(abc d de g gi)", "abc, 4 d 1 g 2"}, {"(ac d de g gi)", "f", "(ac d def g gi)", "def, 0 d 4 g 2"},
	{"(ac d de g gi)", "h", "(ac d de g ghi)", "ghi, 0 d 1 g 4"}, {"(ac d de g gi)", "g", "(ac d de g gi)", "gi, 0 d 1 g 4"},
	{"(ac d ef g hi)", "d", "(ac d def g hi)", "def, 0 d 4 g 2"}, {"(ac d ef g hi)", "g", "(ac d ef g ghi)", "ghi, 0 d 1 g 4"},
	// a kid that becomes two: first, within, last
	{"(abcd f fg i ij)", "e", "(ab c cde f fg i ij)", "ab, cde, 4 c 5 f 1 i 2"},
	{"(ab c cdef i ij)", "g", "(ab c cd e efg i ij)", "cd, efg, 0 c 4 e 5 i 2"},
	{"(ab c cd f fghi)", "j", "(ab c cd f fg h hij)", "fg, hij, 0 c 1 f 4 h 5"},
	// a root that is no leaf and becomes two, its new key at each place
	{"(bcde f fg h hi j jk l lm)", "a", "((ab c cde f fg) h (hi j jk l lm))", "ab, cde, 6 c 7 f 1, 2 j 3 l 4, 8 h 9"},
	{"(ab c cdfg h hi j jk l lm)", "e", "((ab c cd e efg) h (hi j jk l lm))", "cd, efg, 0 c 6 e 7, 2 j 3 l 4, 8 h 9"},
	{"(ab c cd e efgi j jk l lm)", "h", "((ab c cd e ef) g (ghi j jk l lm))", "ef, ghi, 0 c 1 e 6, 7 j 3 l 4, 8 g 9"},
	{"(ab c cd e ef g ghjk l lm)", "i", "((ab c cd e ef) g (gh i ijk l lm))", "gh, ijk, 0 c 1 e 2, 6 i 7 l 4, 8 g 9"},
	{"(ab c cd e ef g gh i ijkl)", "m", "((ab c cd e ef) g (gh i ij k klm))", "ij, klm, 0 c 1 e 2, 3 i 6 k 7, 8 g 9"},
	// nodes within that become two below a root that stays one: first, within, last
	{"((bcde f fg h hi j jk l lm) n (no p pq r rs))", "a", "((ab c cde f fg) h (hi j jk l lm) n (no p pq r rs))", "ab, cde, 11 c 12 f 1, 2 j 3 l 4, 13 h 14 n 9"},
	{"((ab c cd e ef) g (gh i ij k kl m mn o opqr) t (tu v vw x xy))", "s",
		"((ab c cd e ef) g (gh i ij k kl) m (mn o op q qrs) t (tu v vw x xy))", "op, qrs, 4 i 5 k 6, 7 o 15 q 16, 3 g 17 m 18 t 13"},
	{"((ab c cd e ef) g (gh i ij k km n no p pq))", "l", "((ab c cd e ef) g (gh i ij k klm n no p pq))", "klm, 4 i 5 k 11 n 7 p 8, 3 g 12"},
	{"((ab c cd e ef) g (gh i ij k klno p pq r rs))", "m", "((ab c cd e ef) g (gh i ij k kl) m (mno p pq r rs))", "kl, mno, 4 i 5 k 11, 12 p 7 r 8, 3 g 13 m 14"},
}

func TestPuts(t *testing.T) {
	for _, c := range puts {
		f, root := layTree(c.before)
		if !impl.TreeOK(f, root) {
			t.Fatalf("%s is no tree", c.before)
		}
		next, top, got := impl.TreePut(f, root, c.key, "new")
		code(t, "TreePut of "+c.key+" into "+c.before, got, impl.OK)
		checkChange(t, c, f, next, top)
		if value, got := impl.TreeFind(next, top, c.key); value != "new" || got != impl.OK {
			t.Errorf("%s into %s: found %q %d", c.key, c.before, value, got)
		}
	}
}

// checkChange asks for the tree, for the new nodes in their order, and for all nodes of before as they were.
func checkChange(t *testing.T, c change, f, next impl.Forest, root int) {
	t.Helper()
	if got := showTree(next, root); got != c.after {
		t.Errorf("%s and %s: %s, want %s", c.before, c.key, got, c.after)
	}
	if got := showNodes(next, len(f.Nodes)); got != c.made {
		t.Errorf("%s and %s: new are %s, want %s", c.before, c.key, got, c.made)
	}
	if !sameForest(impl.Forest{Nodes: next.Nodes[:len(f.Nodes)]}, f) {
		t.Errorf("%s and %s: nodes of before are changed", c.before, c.key)
	}
	if !impl.TreeOK(next, root) {
		t.Errorf("%s and %s: %s is no tree", c.before, c.key, showTree(next, root))
	}
}

// What a put or a drop makes has room up to MaxNodes, and not one node further.
func TestRoomForChanges(t *testing.T) {
	for _, c := range puts {
		f, root := layTree(c.before)
		next, _, _ := impl.TreePut(f, root, c.key, "new")
		made := len(next.Nodes) - len(f.Nodes)
		wantFull(t, c, made, func(f impl.Forest) (impl.Forest, int, int) { return impl.TreePut(f, root, c.key, "new") })
	}
	for _, c := range drops {
		f, root := layTree(c.before)
		next, _, _ := impl.TreeDrop(f, root, c.key)
		made := len(next.Nodes) - len(f.Nodes)
		wantFull(t, c, made, func(f impl.Forest) (impl.Forest, int, int) { return impl.TreeDrop(f, root, c.key) })
	}
}

func wantFull(t *testing.T, c change, made int, do func(impl.Forest) (impl.Forest, int, int)) {
	t.Helper()
	laid, _ := layTree(c.before)
	f := padded(laid, impl.MaxNodes-made)
	next, root, got := do(f)
	code(t, c.before+" and "+c.key+" with just enough room", got, impl.OK)
	if showTree(next, root) != c.after || len(next.Nodes) != impl.MaxNodes {
		t.Errorf("%s and %s: %s and %d nodes", c.before, c.key, showTree(next, root), len(next.Nodes))
	}
	for more := 1; more <= made; more++ {
		next, root, got = do(padded(laid, impl.MaxNodes-made+more))
		code(t, c.before+" and "+c.key+" without room", got, impl.ErrFull)
		if !noForest(next) || root != 0 {
			t.Errorf("%s and %s: a code, and %d nodes, root %d", c.before, c.key, len(next.Nodes), root)
		}
	}
	next, root, got = do(padded(laid, impl.MaxNodes+1))
	code(t, c.before+" and "+c.key+" in too many nodes", got, impl.ErrBad)
	if !noForest(next) || root != 0 {
		t.Errorf("%s and %s: a code, and %d nodes, root %d", c.before, c.key, len(next.Nodes), root)
	}
}
