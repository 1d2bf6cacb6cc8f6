package tests

import (
	"fmt"
	"slices"
	"strings"
	"testing"

	"loop.example/g00208/impl"
)

// builtBySteps puts entries one behind the other and compacts behind each, until one has no room; it answers how many had.
func builtBySteps(list []impl.Entry) (impl.Forest, int, int) {
	f, root := impl.Forest{}, -1
	for i, e := range list {
		next, top, got := impl.TreePut(f, root, e.Key, e.Value)
		if got != impl.OK {
			return f, root, i
		}
		small, roots, _ := impl.Compact(next, []int{top})
		f, root = small, roots[0]
	}
	return f, root, len(list)
}

// checkBuilt answers how many entries have room, and the nodes of these.
func checkBuilt(t *testing.T, what string, list []impl.Entry) (int, int) {
	t.Helper()
	want, top, most := builtBySteps(list)
	f, root, got := impl.BuildTree(list[:most])
	code(t, what, got, impl.OK)
	if !sameForest(f, want) || root != top {
		t.Errorf("%s: %.200v root %d, want %.200v root %d", what, f, root, want, top)
	}
	if most < len(list) {
		wantNotBuilt(t, what, list[:most+1], impl.ErrFull)
		wantNotBuilt(t, what, list, impl.ErrFull)
	}
	return most, len(want.Nodes)
}

func wantNotBuilt(t *testing.T, what string, list []impl.Entry, want int) {
	t.Helper()
	f, root, got := impl.BuildTree(list)
	code(t, what, got, want)
	if !noForest(f) || root != 0 {
		t.Errorf("%s: a code, and %d nodes, root %d", what, len(f.Nodes), root)
	}
}

func risingEntries(count int) []impl.Entry {
	var list []impl.Entry
	for i := range count {
		list = append(list, impl.Entry{Key: fmt.Sprintf("k%04d", i), Value: fmt.Sprint(i)})
	}
	return list
}

func TestBuiltTrees(t *testing.T) {
	d := &dice{state: 11}
	for i := range 120 {
		var list []impl.Entry
		for range i {
			key := fmt.Sprint(d.below(i))
			list = append(list, impl.Entry{Key: key, Value: fmt.Sprint(d.below(99))})
		}
		checkBuilt(t, fmt.Sprint(i, " entries"), list)
		f, root, _ := impl.BuildTree(list)
		has := map[string]string{}
		for _, e := range list {
			has[e.Key] = e.Value
		}
		if got, _ := impl.TreeList(f, root, "", ""); !slices.Equal(got, entriesOf(has)) {
			t.Errorf("%d entries: %v", i, got)
		}
		if reached, _ := impl.Reached(f, []int{root}); len(reached) != len(f.Nodes) {
			t.Errorf("%d entries: %d nodes, %d are reached", i, len(f.Nodes), len(reached))
		}
	}
}

func TestBuiltOfFewEntries(t *testing.T) {
	for _, list := range [][]impl.Entry{nil, {}} {
		f, root, got := impl.BuildTree(list)
		if len(f.Nodes) != 0 || root != -1 || got != impl.OK {
			t.Error("no entries", f, root, got)
		}
	}
	f, root, got := impl.BuildTree([]impl.Entry{{Key: longKey, Value: longValue}, {Key: "a"}, {Key: longKey, Value: ""}, {Key: "a", Value: "last"}})
	if got != impl.OK || root != 0 || !sameForest(f, forest(impl.Node{Leaf: true, Keys: []string{"a", longKey}, Vals: []string{"last", ""}})) {
		t.Error("one key twice", f, root, got)
	}
	var five []impl.Entry
	for _, key := range []string{"e", "d", "c", "b", "a"} {
		five = append(five, impl.Entry{Key: key, Value: valueOf(key)})
	}
	f, root, got = impl.BuildTree(five)
	if got != impl.OK || root != 2 || showNodes(f, 0) != "ab, cde, 0 c 1" {
		t.Error("five keys", f, root, got)
	}
}

// The room is that of what a put makes, ahead of what compacting gives back.
func TestBuiltTreesWithoutRoom(t *testing.T) {
	falling := risingEntries(1500)
	slices.Reverse(falling)
	var mixed []impl.Entry // the last put that has room fills it up to the last node
	for _, key := range keysOf(1400) {
		mixed = append(mixed, impl.Entry{Key: key})
	}
	for _, list := range [][]impl.Entry{falling, mixed} {
		most, nodes := checkBuilt(t, "from "+list[0].Key+" on", list)
		if most == len(list) || nodes >= impl.MaxNodes {
			t.Errorf("from %s on: %d entries in %d nodes", list[0].Key, most, nodes)
		}
	}
	rising := risingEntries(1500)
	most, nodes := checkBuilt(t, "rising", rising)
	// a put of a key that is there needs room for its way from the root on
	again, _ := checkBuilt(t, "rising and again", slices.Concat(rising[:most], rising[:20]))
	if again == most && nodes+5 <= impl.MaxNodes {
		t.Errorf("there is room behind %d nodes", nodes)
	}
}

func TestBuiltOfWrongEntries(t *testing.T) {
	wrong := []impl.Entry{
		{}, {Value: "v"}, {Key: longKey + "k"}, {Key: "k", Value: longValue + "v"},
		{Key: strings.Repeat("k", impl.MaxText+1)}, {Key: "k", Value: strings.Repeat("v", impl.MaxText+1)},
	}
	for _, e := range wrong {
		wantNotBuilt(t, "a wrong entry", []impl.Entry{e}, impl.ErrBad)
		wantNotBuilt(t, "a wrong entry first", slices.Concat([]impl.Entry{e}, risingEntries(9)), impl.ErrBad)
		wantNotBuilt(t, "a wrong entry last", append(risingEntries(9), e), impl.ErrBad)
		wantNotBuilt(t, "a wrong entry behind too many", append(risingEntries(impl.MaxList-1), e), impl.ErrBad)
		wantNotBuilt(t, "too many entries, a wrong one", append(risingEntries(impl.MaxList), e), impl.ErrLong)
		wantNotBuilt(t, "too many wrong entries", slices.Repeat([]impl.Entry{e}, impl.MaxList+1), impl.ErrLong)
	}
	wantNotBuilt(t, "entries without room", risingEntries(impl.MaxList), impl.ErrFull)
	wantNotBuilt(t, "too many entries", risingEntries(impl.MaxList+1), impl.ErrLong)
	wantNotBuilt(t, "one entry too often", slices.Repeat([]impl.Entry{{Key: "k"}}, impl.MaxList+1), impl.ErrLong)
	f, root, got := impl.BuildTree(slices.Repeat([]impl.Entry{{Key: "k", Value: "v"}}, impl.MaxList))
	if got != impl.OK || root != 0 || len(f.Nodes) != 1 {
		t.Error("one entry as often as may be", f, root, got)
	}
}
