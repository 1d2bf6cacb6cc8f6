package tests

import (
	"fmt"
	"math"
	"slices"
	"strings"
	"testing"

	"loop.example/g00208/impl"
)

func TestHistoryConstants(t *testing.T) {
	got := []int{impl.MaxTxs, impl.MaxHist, impl.HiRead, impl.HiWrite, impl.HiCommit, impl.HiAbort, impl.CeBegin, impl.CeRead, impl.CeRange, impl.CeWrite, impl.CeCommit, impl.CeAbort}
	if !slices.Equal(got, []int{6, 60, 1, 2, 3, 4, 1, 2, 3, 4, 5, 6}) {
		t.Error("constants", got)
	}
}

func TestRightHistories(t *testing.T) {
	for i, h := range rightHistories() {
		if !impl.HistoryOK(h) {
			t.Errorf("right history %d: %.300v", i, h)
		}
		_, c1 := impl.Committed(h)
		_, c2 := impl.Conflicts(h)
		_, _, c3 := impl.PlayHistory(h)
		_, c4 := impl.SerialHistory(h, []int{5, 0, 3})
		if c1+c2+c3+c4 != impl.OK {
			t.Errorf("right history %d: %d %d %d %d", i, c1, c2, c3, c4)
		}
	}
}

// wantNoHistory asks for a code of all calls, and for nothing else.
func wantNoHistory(t *testing.T, what string, h []impl.HOp, want int) {
	t.Helper()
	if impl.HistoryOK(h) {
		t.Errorf("%.200s: it is right", what)
	}
	done, c := impl.Committed(h)
	code(t, what+": Committed", c, want)
	edges, c := impl.Conflicts(h)
	code(t, what+": Conflicts", c, want)
	found, left, c := impl.PlayHistory(h)
	code(t, what+": PlayHistory", c, want)
	for _, order := range [][]int{nil, {0}, {1, 1}} {
		serial, c := impl.SerialHistory(h, order)
		code(t, what+": SerialHistory", c, want)
		if len(serial) != 0 {
			t.Errorf("%.200s: a code, and acts", what)
		}
	}
	if len(done)+len(edges)+len(found)+len(left) != 0 {
		t.Errorf("%.200s: a code, and %v %v %v %v", what, done, edges, found, left)
	}
	_, c = impl.SerialHistory(h, make([]int, impl.MaxList+1))
	code(t, what+": SerialHistory of a long order", c, impl.ErrLong)
}

func TestWrongHistories(t *testing.T) {
	for i, h := range wrongHistories() {
		wantNoHistory(t, fmt.Sprintf("wrong history %d: %.200v", i, h), h, impl.ErrBad)
	}
}

func TestLongHistories(t *testing.T) {
	for _, c := range []struct{ acts, want int }{{impl.MaxHist + 1, impl.ErrBad}, {impl.MaxHist + 6, impl.ErrBad}, {impl.MaxList, impl.ErrBad}, {impl.MaxList + 1, impl.ErrLong}} {
		wantNoHistory(t, fmt.Sprint(c.acts, " acts"), manyOps(c.acts), c.want)
		wantNoHistory(t, fmt.Sprint(c.acts, " wrong acts"), make([]impl.HOp, c.acts), c.want)
	}
	if done, c := impl.Committed(manyOps(impl.MaxHist)); c != impl.OK || !slices.Equal(done, run(0, 6)) {
		t.Error("MaxHist acts", done, c)
	}
}

func TestCommitted(t *testing.T) {
	for words, want := range map[string][]int{
		"": nil, "c0": {0}, "a0": nil, "c5": {5}, "c5 c3 c0": {0, 3, 5}, "c5 c4 c3 c2 c1 c0": {0, 1, 2, 3, 4, 5}, "a5 a4 c3 a2 a1 a0": {3},
		"r0x w1x=1 c1 w2x=9 a2 w0y=2 c0 r3x c3": {0, 1, 3}, "w4x=1 w2x=1 c4 a2": {4}, "a0 c1": {1}, "c0 a1": {0},
	} {
		done, c := impl.Committed(history(words))
		if c != impl.OK || !slices.Equal(done, want) {
			t.Errorf("%s: %v %d committed, want %v", words, done, c, want)
		}
	}
}

func TestConflicts(t *testing.T) {
	for words, want := range map[string]string{
		"": "", "c0": "", "w0x=1 r0x w0x=2 c0": "", "r0x r1x c0 c1": "", "r0x r1x r2x r0x c2 c1 c0": "", "c0 c1": "", "r0x r1y w1z=1 w0u=1 c0 c1": "",
		"r0x w1x=1 c0 c1": "01", "w0x=1 r1x c0 c1": "01", "w0x=1 w1x=1 c0 c1": "01", "w0x= w1x= c0 c1": "01", "r1x w0x=1 c0 c1": "10", "r0x c0 w1x=1 c1": "01", "w1x=1 c1 r0x c0": "10",
		"r0x w1x=1 a0 c1": "", "r0x w1x=1 c0 a1": "", "w0x=1 w1x=1 a0 a1": "", "w0x=1 w2x=1 w1x=1 c0 a2 c1": "01", "w0a=1 w1ab=1 r0ab c0 a1": "", "w0a=1 w1A=1 w0a\x00=1 c0 c1": "",
		"r0x r1x w0x=1 w1x=2 c0 c1": "01 10", "w0x=1 w1x=1 w0x=2 c0 c1": "01 10", "r0x w1x=1 r0x c0 c1": "01 10", "r0x w1x=1 r0x r0x w1x=2 c0 c1": "01 10", "w0x=1 w0y=1 w0z=1 r1x r1y r1z c0 c1": "01",
		"w5x=1 r0x r1x r2x c0 c1 c2 c5": "50 51 52", "r0x r1x r2x w5x=1 c0 c1 c2 c5": "05 15 25", "w3x=1 w1x=1 w2x=1 c1 c2 c3": "12 31 32", "r0x w1x=1 w1y=1 r2y w2z=1 r0z c0 c1 c2": "01 12 20",
		"r0x w1x=1 c1 w2x=9 a2 w0y=2 c0 r3x c3": "01 13",
	} {
		edges, c := impl.Conflicts(history(words))
		if c != impl.OK || !slices.Equal(edges, edgesOf(want)) {
			t.Errorf("%s: conflicts %v %d, want %s", words, edges, c, want)
		}
	}
}

func TestSerialOrder(t *testing.T) {
	for _, c := range []struct {
		nodes []int
		edges string
		want  []int
	}{
		{nil, "", nil}, {nil, "01 10 11", nil}, {[]int{3}, "", []int{3}}, {[]int{5, 2, 4}, "", []int{2, 4, 5}}, {[]int{5, 2, 4}, "52 94", []int{4, 5, 2}}, {[]int{5, 2, 4}, "49 94 99 29", []int{2, 4, 5}},
		{[]int{1, 2}, "21", []int{2, 1}}, {[]int{1, 2}, "21 21 21", []int{2, 1}}, {[]int{2, 1}, "12", []int{1, 2}}, {[]int{1, 2, 3}, "31", []int{2, 3, 1}}, {[]int{3, 2, 1}, "32 21", []int{3, 2, 1}},
		{[]int{1, 2, 3, 4}, "41 32", []int{3, 2, 4, 1}}, {[]int{1, 2, 3, 4}, "21 31 42 43", []int{4, 2, 3, 1}}, {[]int{1, 2, 3, 4}, "41 42 43", []int{4, 1, 2, 3}}, {[]int{1, 2, 3, 4, 5}, "51 12 34", []int{3, 4, 5, 1, 2}},
		{[]int{1, 3}, "12 23 31", []int{3, 1}}, {[]int{1, 3}, "12 21 23 32", []int{1, 3}},
	} {
		order, got := impl.SerialOrder(c.nodes, edgesOf(c.edges))
		if got != impl.OK || !slices.Equal(order, c.want) {
			t.Errorf("%v by %s: %v %d, want %v", c.nodes, c.edges, order, got, c.want)
		}
	}
	low, high := math.MinInt, math.MaxInt
	order, c := impl.SerialOrder([]int{0, high, low, -1}, []impl.Edge{edge(high, low), edge(0, -1), edge(high-1, 0), edge(low, low+1)})
	if c != impl.OK || !slices.Equal(order, []int{0, -1, high, low}) {
		t.Error("the least and the greatest nodes", order, c)
	}
}

func TestNoSerialOrder(t *testing.T) {
	nodes := run(0, 21)
	many := make([]impl.Edge, 401)
	for _, c := range []struct {
		nodes []int
		edges []impl.Edge
		want  int
	}{
		{[]int{1}, edgesOf("11"), impl.ErrConflict}, {[]int{1, 2}, edgesOf("12 21"), impl.ErrConflict}, {[]int{2, 1}, edgesOf("22"), impl.ErrConflict}, {[]int{1, 2, 3}, edgesOf("12 23 31"), impl.ErrConflict},
		{[]int{1, 2, 3, 4}, edgesOf("12 34 43"), impl.ErrConflict}, {[]int{math.MinInt}, []impl.Edge{edge(math.MinInt, math.MinInt)}, impl.ErrConflict}, {[]int{0}, many[:400], impl.ErrConflict},
		{[]int{1, 1}, nil, impl.ErrTwice}, {[]int{1, 2, 1}, edgesOf("12 21"), impl.ErrTwice}, {[]int{3, 1, 2, 3}, many[:400], impl.ErrTwice}, {append(run(0, 19), 18), nil, impl.ErrTwice}, {[]int{math.MaxInt, 0, math.MaxInt}, nil, impl.ErrTwice},
		{nodes, nil, impl.ErrMany}, {nodes, edgesOf("00"), impl.ErrMany}, {make([]int, 21), nil, impl.ErrMany}, {nil, many, impl.ErrMany}, {[]int{1}, many, impl.ErrMany}, {[]int{1, 1}, many, impl.ErrMany}, {nodes, many, impl.ErrMany},
		{run(0, impl.MaxList), nil, impl.ErrMany}, {nil, make([]impl.Edge, impl.MaxList), impl.ErrMany},
		{run(0, impl.MaxList+1), nil, impl.ErrLong}, {nil, make([]impl.Edge, impl.MaxList+1), impl.ErrLong}, {nodes, make([]impl.Edge, impl.MaxList+1), impl.ErrLong}, {make([]int, impl.MaxList+1), many, impl.ErrLong}, {[]int{1, 1}, make([]impl.Edge, impl.MaxList+1), impl.ErrLong},
	} {
		order, got := impl.SerialOrder(c.nodes, c.edges)
		code(t, fmt.Sprintf("%d nodes, %d edges: %.100v", len(c.nodes), len(c.edges), c.nodes), got, c.want)
		if len(order) != 0 {
			t.Error("a code, and an order", order)
		}
	}
}

// Twenty nodes and four hundred edges are not too many.
func TestGreatOrders(t *testing.T) {
	var all []impl.Edge
	for from := range 20 {
		for to := range from {
			all = append(all, edge(from, to))
		}
	}
	down := run(0, 20)
	slices.Reverse(down)
	all = append(all, slices.Concat(all, slices.Repeat([]impl.Edge{edge(99, 3)}, 20))...)
	for _, nodes := range [][]int{run(0, 20), down} {
		order, c := impl.SerialOrder(nodes, all)
		if len(all) != 400 || c != impl.OK || !slices.Equal(order, down) {
			t.Error(len(all), "edges", order, c)
		}
		order, c = impl.SerialOrder(nodes, []impl.Edge{edge(19, 0)})
		if want := slices.Concat(run(1, 20), []int{0}); c != impl.OK || !slices.Equal(order, want) {
			t.Error("one edge", order, c)
		}
	}
	all[399] = edge(0, 19)
	if order, c := impl.SerialOrder(down, all); c != impl.ErrConflict || len(order) != 0 {
		t.Error("one edge that goes back", order, c)
	}
}

func TestOrdersAreTheFirstOfAll(t *testing.T) {
	d := &dice{state: 5}
	names := []int{math.MinInt, -7, 0, 1, 2, 9, math.MaxInt}
	orders, none := 0, 0
	for range 4000 {
		nodes := slices.Clone(names)
		for i := range nodes {
			k := d.below(len(nodes))
			nodes[i], nodes[k] = nodes[k], nodes[i]
		}
		nodes = nodes[:d.below(6)]
		var edges []impl.Edge
		for range d.below(16) {
			edges = append(edges, edge(names[d.below(7)], names[d.below(7)]))
		}
		want, ok := orderByWords(nodes, edges)
		order, c := impl.SerialOrder(nodes, edges)
		if ok != (c == impl.OK) || !ok && c != impl.ErrConflict || !slices.Equal(order, want) {
			t.Fatalf("%v by %v: %v %d, want %v", nodes, edges, order, c, want)
		}
		if ok {
			orders++
		} else {
			none++
		}
	}
	if orders < 1000 || none < 1000 {
		t.Error("orders", orders, "none", none)
	}
}

func TestPlayHistory(t *testing.T) {
	for words, want := range map[string]string{
		"": "/-", "c0": "/-", "r0x c0": "/-", "r0x r0y r1x c0 c1": ",,/-", "w0x=1 c0": "/x=1", "w0x= c0": "/x=", "w0x=1 r0x c0": "1/x=1", "r0x w0x=1 r0x w0x=2 r0x c0": ",1,2/x=2",
		"w0x=1 r1x c1 c0": "1/x=1", "r0x w1x=1 r0x c0 c1": ",1/x=1", "w0x=1 w1x=2 r2x c0 c1 c2": "2/x=2", "w1y=2 w0x=1 c0 c1": "/x=1 y=2", "w0x=1 w0x= r1x c0 c1": "/x=",
		"w0x=1 r1x a0 c1": "/-", "w0x=1 a0": "/-", "w0x=1 c0 w1x=2 r1x a1 r2x c2": "1/x=1", "w1x=2 w0x=1 a0 r2x c1 c2": "2/x=2", "r0x w1x=1 r0x a0 c1": "/x=1", "w0a=1 w1a\x00=2 r2a r2a\x00 r2A c0 c1 c2": "1,2,/a=1 a\x00=2",
		"r0x r1x w0x=1 w1x=2 c0 c1": ",/x=2", "r0x w1x=1 c1 w2x=9 a2 w0y=2 c0 r3x c3": ",1/x=1 y=2",
	} {
		found, left, c := impl.PlayHistory(history(words))
		if got := strings.Join(found, ",") + "/" + showEntries(left); c != impl.OK || got != want {
			t.Errorf("%s: %s %d is found and left, want %s", words, got, c, want)
		}
		if reads := strings.Count(want, ","); reads > 0 && len(found) != reads+1 {
			t.Errorf("%s: %d reads", words, len(found))
		}
	}
	if found, _, _ := impl.PlayHistory(history("r0x c0 r1x a1")); len(found) != 1 {
		t.Error("a read that finds nothing is told too, one of a transaction that aborts is not:", found)
	}
}

func TestSerialHistory(t *testing.T) {
	h := history("r0x w1x=1 c1 w2x=9 a2 w0y=2 c0 r3x c3")
	for _, c := range []struct {
		order []int
		want  string
	}{
		{nil, ""}, {[]int{0}, "r0x w0y=2 c0"}, {[]int{1, 0}, "w1x=1 c1 r0x w0y=2 c0"}, {[]int{3, 1, 0}, "r3x c3 w1x=1 c1 r0x w0y=2 c0"}, {[]int{0, 1, 3}, "r0x w0y=2 c0 w1x=1 c1 r3x c3"},
		{[]int{2}, "w2x=9 a2"}, {[]int{3, 2, 1}, "r3x c3 w2x=9 a2 w1x=1 c1"}, {[]int{4}, ""}, {[]int{5, 1, 4}, "w1x=1 c1"}, {[]int{-1, 6, 3, math.MinInt, math.MaxInt, 1 << 32}, "r3x c3"}, {run(-2000, 2096), "r0x w0y=2 c0 w1x=1 c1 w2x=9 a2 r3x c3"},
	} {
		serial, got := impl.SerialHistory(h, c.order)
		if got != impl.OK || showHistory(serial) != c.want || !impl.HistoryOK(serial) {
			t.Errorf("by %.100v: %s %d, want %s", c.order, showHistory(serial), got, c.want)
		}
	}
	for _, order := range [][]int{{0, 0}, {1, 0, 1}, {2, 2}, {5, 5}, {-1, 3, -1}, {math.MaxInt, math.MaxInt}, make([]int, impl.MaxList), append(run(0, impl.MaxList-1), 7)} {
		for _, acts := range [][]impl.HOp{h, nil} {
			serial, got := impl.SerialHistory(acts, order)
			code(t, fmt.Sprintf("by %.100v", order), got, impl.ErrTwice)
			if len(serial) != 0 {
				t.Error("a code, and acts", serial)
			}
		}
	}
	for _, order := range [][]int{run(0, impl.MaxList+1), make([]int, impl.MaxList+1)} {
		serial, got := impl.SerialHistory(h, order)
		code(t, "a long order", got, impl.ErrLong)
		if len(serial) != 0 {
			t.Error("a code, and acts", serial)
		}
	}
}
