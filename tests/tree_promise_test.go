package tests

import (
	"fmt"
	"maps"
	"slices"
	"testing"

	"loop.example/g00208/impl"
)

// kept is a root of some time, and what was put last by then.
type kept struct {
	root int
	has  map[string]string
}

// orchard is a forest with the tree of now and some of before.
type orchard struct {
	f      impl.Forest
	now    kept
	before []kept
}

// change puts or drops a key, and asks that no node of before is another one.
func (o *orchard) change(t *testing.T, key, value string, drop bool) {
	t.Helper()
	o.room(t)
	old := cloneForest(o.f)
	var next impl.Forest
	var root, got int
	if drop {
		next, root, got = impl.TreeDrop(o.f, o.now.root, key)
	} else {
		next, root, got = impl.TreePut(o.f, o.now.root, key, value)
	}
	_, there := o.now.has[key]
	if drop && !there {
		code(t, "drop of no key", got, impl.ErrNone)
		return
	}
	code(t, "change", got, impl.OK)
	if len(next.Nodes) < len(old.Nodes) || !sameForest(impl.Forest{Nodes: next.Nodes[:len(old.Nodes)]}, old) || !sameForest(o.f, old) {
		t.Fatalf("%q: nodes of before are changed", key)
	}
	o.before = append(o.before, kept{o.now.root, maps.Clone(o.now.has)})
	o.f, o.now.root = next, root
	if drop {
		delete(o.now.has, key)
	} else {
		o.now.has[key] = value
	}
}

// room compacts when few nodes are left; the last roots of before go along.
func (o *orchard) room(t *testing.T) {
	t.Helper()
	if len(o.before) > 8 {
		o.before = o.before[len(o.before)-8:]
	}
	if len(o.f.Nodes) < impl.MaxNodes-30 {
		return
	}
	roots := []int{o.now.root}
	for _, k := range o.before {
		roots = append(roots, k.root)
	}
	small, moved, got := impl.Compact(o.f, roots)
	code(t, "Compact", got, impl.OK)
	o.f, o.now.root = small, moved[0]
	for i := range o.before {
		o.before[i].root = moved[i+1]
	}
}

// look asks of all trees that they list what was put last, all that was not dropped, and nothing else.
func (o *orchard) look(t *testing.T) int {
	t.Helper()
	for _, k := range append(o.before, o.now) {
		list, got := impl.TreeList(o.f, k.root, "", "")
		if got != impl.OK || !slices.Equal(list, entriesOf(k.has)) || !impl.TreeOK(o.f, k.root) {
			t.Fatalf("root %d has %v, want %v", k.root, list, entriesOf(k.has))
		}
	}
	levels, got := impl.TreeDepth(o.f, o.now.root)
	code(t, "TreeDepth", got, impl.OK)
	if (levels == 0) != (len(o.now.has) == 0) {
		t.Fatalf("%d levels of %d keys", levels, len(o.now.has))
	}
	return levels
}

// find asks for each key of some, there or not.
func (o *orchard) find(t *testing.T, keys []string) {
	t.Helper()
	for _, key := range keys {
		value, there := o.now.has[key]
		want := impl.OK
		if !there {
			want = impl.ErrNone
		}
		if found, got := impl.TreeFind(o.f, o.now.root, key); got != want || found != value {
			t.Fatalf("%q: found %q %d, want %q %d", key, found, got, value, want)
		}
	}
}

// Trees grow from nothing, go to and fro, and shrink to nothing, over one level up to four and more.
func TestTreesHaveWhatWasPutLast(t *testing.T) {
	seen := map[int]int{}
	for _, size := range []int{1, 4, 11, 45, 150} {
		d := &dice{state: uint64(size) + 3}
		keys := keysOf(size)
		o := &orchard{now: kept{root: -1, has: map[string]string{}}}
		for i := range 5 * (size + 9) {
			phase := i / (size + 9)
			drop := d.below(10) < []int{1, 5, 9, 2, 9}[phase]
			o.change(t, keys[d.below(size)], fmt.Sprint(i), drop)
			seen[o.look(t)]++
			if i%7 == 0 {
				o.find(t, keys)
			}
		}
		for _, key := range keys {
			o.change(t, key, "", true)
			seen[o.look(t)]++
		}
		if o.now.root != -1 || len(o.now.has) != 0 {
			t.Errorf("%d keys: root %d behind the last", size, o.now.root)
		}
	}
	for levels := range 5 {
		if seen[levels] < 10 {
			t.Error("too few trees of levels", levels, seen)
		}
	}
}

// Keys that rise, and such that fall, are put and dropped at the ends.
func TestTreesAtTheirEnds(t *testing.T) {
	rising := keysOf(90)
	slices.Sort(rising)
	falling := slices.Clone(rising)
	slices.Reverse(falling)
	for _, in := range [][]string{rising, falling} {
		for _, out := range [][]string{rising, falling} {
			o := &orchard{now: kept{root: -1, has: map[string]string{}}}
			for _, key := range in {
				o.change(t, key, valueOf(key), false)
			}
			most := o.look(t)
			for _, key := range out {
				o.change(t, key, "", true)
				o.look(t)
			}
			if most != 4 || o.now.root != -1 {
				t.Errorf("%d levels, then root %d", most, o.now.root)
			}
		}
	}
}

// Two trees that began as one go their own ways.
func TestTreesThatShareNodes(t *testing.T) {
	keys := keysOf(40)
	f, root := grown(keys...)
	left, right := root, root
	hasLeft, hasRight := map[string]string{}, map[string]string{}
	for _, key := range keys {
		hasLeft[key], hasRight[key] = valueOf(key), valueOf(key)
	}
	var got int
	for i, key := range keys {
		f, left, got = impl.TreeDrop(f, left, key)
		code(t, "TreeDrop", got, impl.OK)
		delete(hasLeft, key)
		f, right, got = impl.TreePut(f, right, key+"x", fmt.Sprint(i))
		code(t, "TreePut", got, impl.OK)
		hasRight[key+"x"] = fmt.Sprint(i)
		for _, k := range []kept{{left, hasLeft}, {right, hasRight}} {
			if list, _ := impl.TreeList(f, k.root, "", ""); !slices.Equal(list, entriesOf(k.has)) {
				t.Fatalf("root %d behind %s: %v", k.root, key, list)
			}
		}
		if list, _ := impl.TreeList(f, root, "", ""); len(list) != len(keys) {
			t.Fatalf("the first root behind %s: %v", key, list)
		}
		small, roots, _ := impl.Compact(f, []int{left, right, root})
		f, left, right, root = small, roots[0], roots[1], roots[2]
	}
}
