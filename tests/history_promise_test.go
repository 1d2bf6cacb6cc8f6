package tests

import (
	"maps"
	"slices"
	"testing"

	"loop.example/g00208/impl"
)

// foundBy tells what each committed transaction's reads find, and what is left.
func foundBy(t *testing.T, h []impl.HOp) (map[int][]string, []impl.Entry) {
	t.Helper()
	found, left, c := impl.PlayHistory(h)
	code(t, "PlayHistory", c, impl.OK)
	done := committedByWords(h)
	by := map[int][]string{}
	for _, op := range h {
		if op.Kind != impl.HiRead || !slices.Contains(done, op.Tx) {
			continue
		}
		if len(found) == 0 {
			t.Fatalf("%s: a read is not told", showHistory(h))
		}
		by[op.Tx] = append(by[op.Tx], found[0])
		found = found[1:]
	}
	if len(found) != 0 {
		t.Fatalf("%s: more reads are told than there are", showHistory(h))
	}
	return by, left
}

// goesAs says that the committed ones, one whole behind the other, find and leave what they do in a history.
func goesAs(t *testing.T, h []impl.HOp, order []int) bool {
	t.Helper()
	serial, c := impl.SerialHistory(h, order)
	code(t, "SerialHistory", c, impl.OK)
	if !impl.HistoryOK(serial) {
		t.Fatalf("%s by %v: %s is not right", showHistory(h), order, showHistory(serial))
	}
	by, left := foundBy(t, h)
	bySerial, leftSerial := foundBy(t, serial)
	return maps.EqualFunc(by, bySerial, slices.Equal) && slices.Equal(left, leftSerial)
}

// checkWords holds what is told of a history against the document's words.
func checkWords(t *testing.T, h []impl.HOp) ([]int, []impl.Edge) {
	t.Helper()
	if !impl.HistoryOK(h) {
		t.Fatalf("%s is not right", showHistory(h))
	}
	done, c1 := impl.Committed(h)
	edges, c2 := impl.Conflicts(h)
	found, left, c3 := impl.PlayHistory(h)
	if c1+c2+c3 != impl.OK || !slices.Equal(done, committedByWords(h)) || !slices.Equal(edges, conflictsByWords(h)) {
		t.Fatalf("%s: %v are committed, in conflict %v", showHistory(h), done, edges)
	}
	wantFound, wantLeft := playedByWords(h)
	if !slices.Equal(found, wantFound) || !slices.Equal(left, wantLeft) {
		t.Fatalf("%s: %q %v is found and left, want %q %v", showHistory(h), found, left, wantFound, wantLeft)
	}
	return done, edges
}

// The theorem: where conflicts go round nowhere, each order that keeps them finds and leaves the same, the one that is told among them.
func TestOneByOneFindsAndLeavesTheSame(t *testing.T) {
	d := &dice{state: 3}
	orders, mixed, none := 0, 0, 0
	for range 4000 {
		h := rolledHistory(d)
		done, edges := checkWords(t, h)
		want, ok := orderByWords(done, edges)
		order, c := impl.SerialOrder(done, edges)
		if ok != (c == impl.OK) || !slices.Equal(order, want) {
			t.Fatalf("%s: order %v %d, want %v", showHistory(h), order, c, want)
		}
		if !ok {
			code(t, "conflicts that go round", c, impl.ErrConflict)
			none++
			continue
		}
		orders++
		if !goesAs(t, h, order) {
			t.Fatalf("%s by %v finds or leaves another thing", showHistory(h), order)
		}
		if len(done) > 1 && !goesAs(t, h, done) {
			mixed++ // so that the order matters
		}
	}
	if orders < 1000 || none < 1000 || mixed < 100 {
		t.Error("orders", orders, "of which others fail", mixed, "none", none)
	}
}

func TestEachOrderThatKeepsConflicts(t *testing.T) {
	d := &dice{state: 31}
	kept := 0
	for range 400 {
		h := rolledHistory(d)
		done, edges := checkWords(t, h)
		eachOrder(done, func(order []int) bool {
			if keepsEdges(order, edges) {
				kept++
				if !goesAs(t, h, order) {
					t.Fatalf("%s by %v finds or leaves another thing", showHistory(h), order)
				}
			}
			return true
		})
	}
	if kept < 1000 {
		t.Error("few orders keep the conflicts:", kept)
	}
}

// All ways in which two or three small transactions come into each other's midst.
func TestAllInterleavings(t *testing.T) {
	orders, none := 0, 0
	for _, parts := range [][]string{
		{"r0x w0x=1 c0", "r1x w1x=2 c1"}, {"r0x w0y=1 c0", "r1y w1x=2 c1"}, {"w0x=1 w0y=1 c0", "w1x=2 w1y=2 c1"}, {"w0x=1 w0y=1 c0", "r1x r1y c1"}, {"r0x r0x c0", "w1x=1 a1"},
		{"w0x=1 c0", "r1x w1y=1 c1", "r2y c2"}, {"w0x=1 a0", "r1x w1x=2 c1", "r2x c2"}, {"r5x w5x=1 c5", "r4x c4", "w0x=3 c0"},
	} {
		var lists [][]impl.HOp
		for _, words := range parts {
			lists = append(lists, history(words))
		}
		eachMix(lists, nil, func(h []impl.HOp) {
			done, edges := checkWords(t, h)
			order, c := impl.SerialOrder(done, edges)
			want, ok := orderByWords(done, edges)
			if ok != (c == impl.OK) || !slices.Equal(order, want) {
				t.Fatalf("%s: order %v %d, want %v", showHistory(h), order, c, want)
			}
			if !ok {
				none++
			} else if orders++; !goesAs(t, h, order) {
				t.Fatalf("%s by %v finds or leaves another thing", showHistory(h), order)
			}
		})
	}
	if orders < 500 || none < 50 {
		t.Error("orders", orders, "none", none)
	}
}

// eachMix calls do with all ways to put lists into each other's midst, behind what is ahead; each stays in its own order.
func eachMix[E any](lists [][]E, ahead []E, do func([]E)) {
	ended := true
	for i, list := range lists {
		if len(list) == 0 {
			continue
		}
		ended = false
		rest := slices.Clone(lists)
		rest[i] = list[1:]
		eachMix(rest, append(slices.Clone(ahead), list[0]), do)
	}
	if ended {
		do(ahead)
	}
}

// Histories whose conflicts go round have no order, and rightly so: none finds and leaves the same.
func TestConflictsThatGoRound(t *testing.T) {
	for _, words := range []string{
		"r0x r1x w0x=1 w1x=2 c0 c1", "r0x w1x=1 r0x c0 c1", "w0x=1 r1x r1y w0y=1 c0 c1", "r0x r1y w0y=1 w1x=1 c0 c1", "w0x=1 w1x=2 w1y=2 w0y=1 c0 c1", "w0x=1 r1x w0x=2 c0 c1",
		"r0x w1x=1 r1y w2y=1 r2z w0z=1 c0 c1 c2", "r3x r1y r5z w1x=1 w5y=2 w3z=3 c5 c3 c1 r0x c0", "w0a=1 w1a=2 w1b=2 w2b=3 w2c=3 w0c=1 r4a r4b r4c c4 c0 c1 c2",
	} {
		h := history(words)
		done, edges := checkWords(t, h)
		order, c := impl.SerialOrder(done, edges)
		if c != impl.ErrConflict || len(order) != 0 {
			t.Errorf("%s: order %v %d", words, order, c)
		}
		eachOrder(done, func(order []int) bool {
			if goesAs(t, h, order) {
				t.Errorf("%s goes as by %v", words, order)
			}
			return true
		})
	}
}

// What aborts goes out of the way: conflicts that go round through it do not count.
func TestAbortsGoOutOfTheWay(t *testing.T) {
	for words, want := range map[string][]int{
		"r0x r1x w0x=1 w1x=2 c0 a1": {0}, "r0x r1x w0x=1 w1x=2 a0 c1": {1}, "r0x w1x=1 r1y w2y=1 r2z w0z=1 c0 a1 c2": {2, 0}, "w1x=1 r0x w2x=2 a2 r1x c0 c1": {1, 0}, "w1x=1 a1 r0x c0": {0}, "w0x=1 a0": nil,
	} {
		h := history(words)
		done, edges := checkWords(t, h)
		order, c := impl.SerialOrder(done, edges)
		if c != impl.OK || !slices.Equal(order, want) || !goesAs(t, h, order) {
			t.Errorf("%s: order %v %d, want %v", words, order, c, want)
		}
	}
}
