package tests

import (
	"maps"
	"math"
	"slices"
	"strings"
	"testing"

	"loop.example/g00208/impl"
)

// trees has roots 0, 1, 3 and -1; node 2 is no tree, as node 4 is none.
func trees() impl.Forest {
	return forest(leaf("b", "d"), leaf("f", "h"), inner([]int{1, 0}, "e"), inner([]int{0, 1}, "f"), inner([]int{0, 0}, "c"))
}

var longName = strings.Repeat("n", impl.MaxName)

func rightNames() [][]impl.Named {
	return [][]impl.Named{
		nil, {}, names(), names(named("a", -1)), names(named("a", 0)), names(named("a", 3)), names(named("_", 1), named("a", 1), named("aa", 1)),
		names(named("A", 0), named("Z", -1), named("_", 1), named("a", 3), named("a0", 0), named("a1", 0)), names(named(longName, 0)),
		names(named(longName[1:], 3), named(longName, 0)), names(named("a", 0), named("a"+longName[1:], 1), named("b", -1)), manyNames(impl.MaxTrees),
	}
}

// wrongNames are wrong each for one reason.
func wrongNames() [][]impl.Named {
	list := [][]impl.Named{
		manyNames(impl.MaxTrees + 1), manyNames(impl.MaxList), names(named("b", 0), named("a", 0)), names(named("a", 0), named("a", 0)), names(named("a", 0), named("a", 1)),
		names(named("a", 0), named("c", 0), named("b", 0)), names(named("a", 0), named("b", 0), named("b", 0)), names(named("aa", 0), named("a", 0)), names(named("a", 0), named("Z", 0)),
		slices.Repeat(names(named("a", -1)), impl.MaxTrees),
	}
	for _, name := range noNames() {
		list = append(list, names(named(name, 0)))
	}
	list = append(list, names(named("", 0), named("a", 0)), names(named("9", 0), named("a", 0)), names(named("a", 0), named("a b", 0)))
	for _, root := range append(oddInts, 4, 5, 6) {
		if root < -1 || root == 2 || root > 3 {
			list = append(list, names(named("a", root)), names(named("a", 0), named("b", root)), names(named("a", root), named("b", -1)))
		}
	}
	return list
}

func noNames() []string {
	return []string{"", "9", "9a", "a b", "a-", "-a", " a", "a ", "a\x00", "\xc3\xa4", longName + "n", strings.Repeat("n", impl.MaxText)}
}

func TestNamesOK(t *testing.T) {
	for _, list := range rightNames() {
		if !impl.NamesOK(trees(), list) {
			t.Errorf("%v is not right", list)
		}
	}
	for _, list := range wrongNames() {
		if impl.NamesOK(trees(), list) {
			t.Errorf("%.200v is right", list)
		}
		wantNoNames(t, "wrong names", trees(), list, "a", 0, impl.ErrBad)
		wantNoNames(t, "wrong names", trees(), list, "zz", -1, impl.ErrBad)
	}
	if impl.NamesOK(trees(), manyNames(impl.MaxList+1)) || impl.NamesOK(trees(), make([]impl.Named, impl.MaxList+1)) {
		t.Error("too many names are right")
	}
}

func TestNamesOfWrongForests(t *testing.T) {
	for _, f := range wrongForests() {
		for _, list := range [][]impl.Named{nil, names(named("a", -1)), names(named("a", 0))} {
			if impl.NamesOK(f, list) {
				t.Errorf("%.200v in %.200v is right", list, f)
			}
			wantNoNames(t, "a wrong forest", f, list, "a", -1, impl.ErrBad)
			wantNoNames(t, "a wrong forest", f, list, "b", 0, impl.ErrBad)
		}
	}
	for _, f := range rightForests() {
		if !impl.NamesOK(f, nil) || !impl.NamesOK(f, names(named("a", -1))) {
			t.Errorf("names of %.200v are not right", f)
		}
	}
}

func TestWhatIsNoName(t *testing.T) {
	for _, name := range noNames() {
		for _, list := range rightNames() {
			wantNoNames(t, "no name", trees(), list, name, 0, impl.ErrBad)
		}
	}
}

func TestNamesOfWhatIsNoTree(t *testing.T) {
	for _, list := range rightNames() {
		for _, root := range append(oddInts, 4, 5, 6) {
			if root >= -1 && root != 2 && root <= 3 {
				continue
			}
			for _, name := range []string{"a", "zz", longName} {
				made, got := impl.NamedPut(trees(), list, name, root)
				code(t, "NamedPut of no tree", got, impl.ErrBad)
				if len(made) != 0 {
					t.Error("a code, and", made)
				}
			}
		}
	}
}

// Texts and lists that are too long come ahead of all other faults.
func TestLongListsOfNames(t *testing.T) {
	long := strings.Repeat("n", impl.MaxText+1)
	for _, f := range []impl.Forest{{}, trees(), forest(impl.Node{}), padded(impl.Forest{}, impl.MaxNodes+1)} {
		for _, root := range []int{math.MinInt, -1, 0, math.MaxInt} {
			for _, list := range [][]impl.Named{nil, manyNames(impl.MaxTrees), names(named("9", 0)), manyNames(impl.MaxList), manyNames(impl.MaxList + 1)} {
				wantNoNames(t, "a text that is too long", f, list, long, root, impl.ErrLong)
			}
			for _, name := range []string{"", "a", "n00000", "9", long} {
				wantNoNames(t, "a list that is too long", f, manyNames(impl.MaxList+1), name, root, impl.ErrLong)
				wantNoNames(t, "a list that is too long", f, make([]impl.Named, impl.MaxList+1), name, root, impl.ErrLong)
			}
			wantNoNames(t, "a list that is long", f, manyNames(impl.MaxList), "n00000", root, impl.ErrBad)
		}
	}
}

// What is wrong comes ahead of what is full or not there.
func TestFaultsAheadOfFullNames(t *testing.T) {
	full := manyNames(impl.MaxTrees)
	for _, c := range []struct {
		f    impl.Forest
		list []impl.Named
		name string
		root int
		want int
	}{
		{trees(), full, "a", 0, impl.ErrFull}, {trees(), full, "zz", -1, impl.ErrFull}, {trees(), full, "n00005x", 3, impl.ErrFull},
		{trees(), full, "a", 2, impl.ErrBad}, {trees(), full, "a", -2, impl.ErrBad}, {trees(), full, "", 0, impl.ErrBad}, {trees(), full, longName + "n", 0, impl.ErrBad},
		{forest(impl.Node{}), full, "a", -1, impl.ErrBad}, {trees(), append(full[:11:11], named("a", 0)), "b", 0, impl.ErrBad},
		{trees(), full[:11], "a", 0, impl.OK}, {trees(), full, "n00000", 0, impl.OK}, {trees(), full, "n00005", 3, impl.OK}, {trees(), full, "n00011", -1, impl.OK},
	} {
		made, got := impl.NamedPut(c.f, c.list, c.name, c.root)
		code(t, "NamedPut of "+c.name, got, c.want)
		if c.want != impl.OK && len(made) != 0 {
			t.Error("a code, and", made)
		}
		if c.want == impl.OK && (len(made) != impl.MaxTrees || !impl.NamesOK(c.f, made)) {
			t.Error(c.name, "is put:", made)
		}
	}
}

func TestPutsAndDropsOfNames(t *testing.T) {
	three := names(named("b", 0), named("d", 1), named("f", -1))
	for _, c := range []struct {
		name string
		root int
		want []impl.Named
	}{
		{"a", 3, names(named("a", 3), named("b", 0), named("d", 1), named("f", -1))}, {"c", -1, names(named("b", 0), named("c", -1), named("d", 1), named("f", -1))},
		{"e", 0, names(named("b", 0), named("d", 1), named("e", 0), named("f", -1))}, {"g", 1, names(named("b", 0), named("d", 1), named("f", -1), named("g", 1))},
		{"b", 3, names(named("b", 3), named("d", 1), named("f", -1))}, {"d", -1, names(named("b", 0), named("d", -1), named("f", -1))},
		{"f", 0, names(named("b", 0), named("d", 1), named("f", 0))}, {"d", 1, three}, {"B", 0, names(named("B", 0), named("b", 0), named("d", 1), named("f", -1))},
	} {
		if made, got := impl.NamedPut(trees(), three, c.name, c.root); got != impl.OK || !slices.Equal(made, c.want) {
			t.Errorf("%s is put: %v %d, want %v", c.name, made, got, c.want)
		}
	}
	for name, want := range map[string][]impl.Named{"b": three[1:], "d": names(three[0], three[2]), "f": three[:2]} {
		if made, got := impl.NamedDrop(trees(), three, name); got != impl.OK || !slices.Equal(made, want) {
			t.Errorf("%s is dropped: %v %d, want %v", name, made, got, want)
		}
	}
	for _, name := range []string{"a", "c", "bb", "g", "B", longName} {
		for _, list := range [][]impl.Named{nil, three} {
			made, got := impl.NamedDrop(trees(), list, name)
			root, none := impl.NamedRoot(trees(), list, name)
			if got != impl.ErrNone || none != impl.ErrNone || len(made) != 0 || root != 0 {
				t.Errorf("%s is not there: %v %d, %d %d", name, made, got, root, none)
			}
		}
	}
}

// wantRoots asks each of some names for the root that was put under it last.
func wantRoots(t *testing.T, f impl.Forest, list []impl.Named, all []string, last map[string]int) {
	t.Helper()
	for _, name := range all {
		want, there := last[name]
		root, got := impl.NamedRoot(f, list, name)
		if there && (got != impl.OK || root != want) || !there && (got != impl.ErrNone || root != 0) {
			t.Fatalf("%s has root %d, code %d, want %d %t", name, root, got, want, there)
		}
	}
	var rising []impl.Named
	for _, name := range slices.Sorted(maps.Keys(last)) {
		rising = append(rising, named(name, last[name]))
	}
	if !slices.Equal(list, rising) || !impl.NamesOK(f, list) {
		t.Fatalf("names %v, want %v", list, rising)
	}
}

func TestNamesHaveWhatWasPutLast(t *testing.T) {
	f := trees()
	all := []string{"A", "Aa", "Z", "_", "_0", "a", "a0", "a00", "b", "notes", "cases", "z", longName, longName[1:], "zz"}
	roots := []int{-1, 0, 1, 3}
	full, none := 0, 0
	for seed := range 6 {
		d := &dice{state: uint64(seed)}
		var list []impl.Named
		last := map[string]int{}
		for i := range 300 {
			name, root := all[d.below(len(all))], roots[d.below(len(roots))]
			_, there := last[name]
			if d.below(10) < []int{1, 5, 8}[i/100] {
				made, got := impl.NamedDrop(f, list, name)
				if !there {
					code(t, "NamedDrop", got, impl.ErrNone)
					none++
					continue
				}
				code(t, "NamedDrop", got, impl.OK)
				delete(last, name)
				list = made
			} else {
				made, got := impl.NamedPut(f, list, name, root)
				if !there && len(last) == impl.MaxTrees {
					code(t, "NamedPut", got, impl.ErrFull)
					full++
					continue
				}
				code(t, "NamedPut", got, impl.OK)
				last[name] = root
				list = made
			}
			wantRoots(t, f, list, all, last)
		}
	}
	if full < 10 || none < 10 {
		t.Error("only full", full, "and none", none)
	}
}

// Names of trees that go their own ways in one forest.
func TestNamesOfTreesThatGrow(t *testing.T) {
	f, list := impl.Forest{}, []impl.Named(nil)
	has := map[string]map[string]string{}
	d := &dice{state: 5}
	all := []string{"cases", "notes", "rules"}
	for i, key := range keysOf(60) {
		name := all[d.below(3)]
		root, got := impl.NamedRoot(f, list, name)
		if got == impl.ErrNone {
			root, has[name] = -1, map[string]string{}
		}
		f, root, _ = impl.TreePut(f, root, key, valueOf(key))
		has[name][key] = valueOf(key)
		list, got = impl.NamedPut(f, list, name, root)
		code(t, "NamedPut", got, impl.OK)
		if i%9 == 0 && len(list) > 1 {
			list, got = impl.NamedDrop(f, list, name)
			code(t, "NamedDrop", got, impl.OK)
			delete(has, name)
		}
		for _, n := range list {
			root, _ = impl.NamedRoot(f, list, n.Name)
			checkFrom(t, f, root, "", entriesOf(has[n.Name]))
		}
		if len(list) != len(has) {
			t.Fatal("names", list, "want", len(has))
		}
	}
}
