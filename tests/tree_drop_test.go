package tests

import (
	"testing"

	"loop.example/g00208/impl"
)

// A node that is left with one key stands there too, ahead of what it is made one with.
var drops = []change{
	{"a", "a", "", ""}, {"ab", "a", "b", "b"}, {"ab", "b", "a", "a"}, {"abcd", "c", "abd", "abd"}, {"abcd", "a", "bcd", "bcd"},
	// kids that keep two keys: first, within, last; keys of parents stay, though they are dropped below
	{"(abc d de g gh)", "b", "(ac d de g gh)", "ac, 4 d 1 g 2"}, {"(ab c cde g gh)", "c", "(ab c de g gh)", "de, 0 c 4 g 2"},
	{"(ab c cd g ghi)", "g", "(ab c cd g hi)", "hi, 0 c 1 g 4"}, {"(ab c cd g ghi)", "i", "(ab c cd g gh)", "gh, 0 c 1 g 4"},
	// leaves in one: the first with its right neighbour, others with their left one; the neighbour has two keys or three
	{"(ab c cd e ef)", "a", "(bcd e ef)", "b, bcd, 5 e 2"}, {"(ab c cd e ef)", "b", "(acd e ef)", "a, acd, 5 e 2"},
	{"(ab c cde f fg)", "a", "(bcde f fg)", "b, bcde, 5 f 2"},
	{"(ab c cd e ef)", "c", "(abd e ef)", "d, abd, 5 e 2"}, {"(ab c cd e ef)", "d", "(abc e ef)", "c, abc, 5 e 2"},
	{"(abc d de f fg)", "d", "(abce f fg)", "e, abce, 5 f 2"}, {"(ab c cd e efgh)", "d", "(abc e efgh)", "c, abc, 5 e 2"},
	{"(ab c cd e ef)", "e", "(ab c cdf)", "f, cdf, 0 c 5"}, {"(ab c cde f fg)", "g", "(ab c cdef)", "f, cdef, 0 c 5"},
	// leaves that share out: two and three
	{"(ab c cdef g gh)", "a", "(bc d def g gh)", "b, bc, def, 5 d 6 g 2"}, {"(ab c cdef g gh)", "b", "(ac d def g gh)", "a, ac, def, 5 d 6 g 2"},
	{"(abcd e ef g gh)", "e", "(ab c cdf g gh)", "f, ab, cdf, 5 c 6 g 2"}, {"(abcd e ef g ghij)", "f", "(ab c cde g ghij)", "e, ab, cde, 5 c 6 g 2"},
	{"(ab c cdef g gh)", "g", "(ab c cd e efh)", "h, cd, efh, 0 c 5 e 6"}, {"(ab c cdef g gh)", "h", "(ab c cd e efg)", "g, cd, efg, 0 c 5 e 6"},
	// a root that goes: its one kid is the root
	{"(ab c cd)", "a", "bcd", "b, bcd"}, {"(ab c cde)", "b", "acde", "a, acde"}, {"(abc d de)", "e", "abcd", "d, abcd"},
	{"(ab c cdef)", "b", "(ac d def)", "a, ac, def, 4 d 5"}, {"(abcd e ef)", "f", "(ab c cde)", "e, ab, cde, 4 c 5"},
	// other nodes in one, with the key between: at the first kid, within, at the last
	{"((ab c cd e ef) g (gh i ij k kl))", "a", "(bcd e ef g gh i ij k kl)", "b, bcd, 10 e 2, 10 e 2 g 4 i 5 k 6"},
	{"((ab c cd e ef) g (gh i ij k kl))", "l", "(ab c cd e ef g gh i ijk)", "k, ijk, 4 i 10, 0 c 1 e 2 g 4 i 10"},
	{"((ab c cd e ef) g (gh i ij k kl) m (mn o op q qr))", "f", "((ab c cde g gh i ij k kl) m (mn o op q qr))", "e, cde, 0 c 14, 0 c 14 g 4 i 5 k 6, 16 m 11"},
	{"((ab c cd e ef) g (gh i ij k kl) m (mn o op q qr))", "i", "((ab c cd e ef g ghj k kl) m (mn o op q qr))", "j, ghj, 14 k 6, 0 c 1 e 2 g 14 k 6, 16 m 11"},
	{"((ab c cd e ef) g (gh i ij k kl) m (mn o op q qr))", "q", "((ab c cd e ef) g (gh i ij k kl m mn o opr))", "r, opr, 8 o 14, 4 i 5 k 6 m 8 o 14, 3 g 16"},
	// other nodes that share out, five keys and six: the one between goes up
	{"((ab c cd e ef) g (gh i ij k kl m mn))", "b", "((acd e ef g gh) i (ij k kl m mn))", "a, acd, 11 e 2, 11 e 2 g 4, 5 k 6 m 7, 13 i 14"},
	{"((ab c cd e ef) g (gh i ij k kl m mn o op))", "b", "((acd e ef g gh i ij) k (kl m mn o op))", "a, acd, 12 e 2, 12 e 2 g 4 i 5, 6 m 7 o 8, 14 k 15"},
	{"((ab c cd e ef g gh) i (ij k kl m mn))", "n", "((ab c cd e ef) g (gh i ij k klm))", "m, klm, 5 k 11, 0 c 1 e 2, 3 i 5 k 11, 13 g 14"},
	{"((ab c cd e ef g gh i ij) k (kl m mn o op))", "k", "((ab c cd e ef g gh) i (ij k lmn o op))", "l, lmn, 12 o 8, 0 c 1 e 2 g 3, 4 k 12 o 8, 14 i 15"},
	{"((ab c cd e ef g gh) i (ij k kl m mn) o (op q qr s st))", "k", "((ab c cd e ef) g (gh i ijl m mn) o (op q qr s st))",
		"l, ijl, 15 m 7, 0 c 1 e 2, 3 i 15 m 7, 17 g 18 o 12"},
	// sharing out of leaves below keeps the node above as it was
	{"((ab c cdef g gh) i (ij k kl m mn))", "a", "((bc d def g gh) i (ij k kl m mn))", "b, bc, def, 10 d 11 g 2, 12 i 7"},
}

func TestDrops(t *testing.T) {
	for _, c := range drops {
		f, root := layTree(c.before)
		if !impl.TreeOK(f, root) {
			t.Fatalf("%s is no tree", c.before)
		}
		next, top, got := impl.TreeDrop(f, root, c.key)
		code(t, "TreeDrop of "+c.key+" from "+c.before, got, impl.OK)
		checkChange(t, c, f, next, top)
		if _, got := impl.TreeFind(next, top, c.key); got != impl.ErrNone {
			t.Errorf("%s is still in %s", c.key, showTree(next, top))
		}
	}
}

func TestTheLastKey(t *testing.T) {
	f := forest(leaf("x"), leaf("only"), leaf("y"))
	next, root, got := impl.TreeDrop(f, 1, "only")
	if root != -1 || got != impl.OK || !sameForest(next, f) {
		t.Error("the last key", next, root, got)
	}
	full := padded(f, impl.MaxNodes)
	next, root, got = impl.TreeDrop(full, 1, "only")
	if root != -1 || got != impl.OK || !sameForest(next, full) {
		t.Error("the last key of a full forest", len(next.Nodes), root, got)
	}
}

// Of a key that is not there the answer has the root, and nothing else.
func TestDropsOfNoKey(t *testing.T) {
	for _, c := range drops {
		f, root := layTree(c.before)
		for _, key := range []string{"A", "z", c.key + "\x00", "\xff"} {
			next, same, got := impl.TreeDrop(f, root, key)
			code(t, "TreeDrop of "+key, got, impl.ErrNone)
			if !noForest(next) || same != root {
				t.Errorf("%s from %s: %v and root %d", key, c.before, next, same)
			}
		}
		full := padded(f, impl.MaxNodes)
		next, same, got := impl.TreeDrop(full, root, "z")
		code(t, "TreeDrop in a full forest", got, impl.ErrNone)
		if !noForest(next) || same != root {
			t.Errorf("z from %s: %d nodes and root %d", c.before, len(next.Nodes), same)
		}
	}
	for _, f := range []impl.Forest{{}, forest(), forest(leaf("a")), padded(impl.Forest{}, impl.MaxNodes)} {
		next, root, got := impl.TreeDrop(f, -1, "a")
		code(t, "TreeDrop of no tree", got, impl.ErrNone)
		if !noForest(next) || root != -1 {
			t.Error("no tree", next, root)
		}
	}
}
