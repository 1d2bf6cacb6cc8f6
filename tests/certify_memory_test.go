package tests

import (
	"math"
	"slices"
	"testing"

	"loop.example/g00208/impl"
)

// askedOfHistories are all calls of chapter 9 with some arguments.
func askedOfHistories() []func() []any {
	var calls []func() []any
	ask := func(f func() []any) { calls = append(calls, f) }
	long := [][]impl.HOp{manyOps(impl.MaxHist + 1), manyOps(impl.MaxList + 1)}
	for _, h := range slices.Concat(rightHistories(), wrongHistories(), long) {
		ask(func() []any { return []any{impl.HistoryOK(h)} })
		ask(func() []any { list, c := impl.Committed(h); return []any{list, c} })
		ask(func() []any { list, c := impl.Conflicts(h); return []any{list, c} })
		ask(func() []any { found, left, c := impl.PlayHistory(h); return []any{found, left, c} })
		for _, order := range [][]int{nil, {3, 1, 0}, {1, 1}, {math.MinInt, 2, math.MaxInt}, make([]int, impl.MaxList+1)} {
			ask(func() []any { list, c := impl.SerialHistory(h, order); return []any{list, c} })
		}
	}
	for _, nodes := range [][]int{nil, {2, 0, 1}, {0, 0}, oddInts, run(0, 21), make([]int, impl.MaxList+1)} {
		for _, edges := range [][]impl.Edge{nil, edgesOf("20 01"), edgesOf("01 10"), {edge(math.MaxInt, math.MinInt)}, make([]impl.Edge, 401), make([]impl.Edge, impl.MaxList+1)} {
			ask(func() []any { list, c := impl.SerialOrder(nodes, edges); return []any{list, c} })
		}
	}
	for seed := range uint64(30) {
		acts := rolledCert(&dice{state: seed}, impl.MaxScript)
		ask(func() []any { r, left, c := impl.CertRun(acts); return []any{r, left, c} })
	}
	for _, count := range []int{0, impl.MaxScript + 1, impl.MaxList + 1} {
		ask(func() []any { r, left, c := impl.CertRun(make([]impl.CertAct, count)); return []any{r, left, c} })
	}
	for _, a := range someCertActs() {
		ask(func() []any {
			r, left, c := impl.CertRun([]impl.CertAct{ce("begin 0"), a, a})
			return []any{r, left, c}
		})
	}
	return calls
}

func TestHistoriesStay(t *testing.T) {
	orders := [][]int{roomy([]int{3, 1, 0}, 77), roomy([]int{1, 1}, 77), roomy([]int{5, -1, 4}, 77)}
	for _, words := range slices.Concat(rightHistories(), wrongHistories()) {
		h := roomy(words, impl.HOp{Tx: 77, Kind: 77})
		before := slices.Clone(h[:cap(h)])
		impl.HistoryOK(h)
		impl.Committed(h)
		impl.Conflicts(h)
		impl.PlayHistory(h)
		for _, order := range orders {
			kept := slices.Clone(order[:cap(order)])
			impl.SerialHistory(h, order)
			if !slices.Equal(order[:cap(order)], kept) {
				t.Fatal("SerialHistory changed its order", kept)
			}
		}
		if !slices.Equal(h[:cap(h)], before) {
			t.Fatalf("%.300v was changed", before)
		}
	}
}

func TestNodesAndEdgesStay(t *testing.T) {
	for _, numbers := range [][]int{{5, 2, 4}, {3, 3, 1}, {1, 2}, oddInts, run(0, 21)} {
		nodes, edges := roomy(numbers, 77), roomy(edgesOf("52 12 21 13 99"), edge(77, 77))
		wantNodes, wantEdges := slices.Clone(nodes[:cap(nodes)]), slices.Clone(edges[:cap(edges)])
		for _, some := range [][]impl.Edge{edges[:0], edges[:1], edges[:2], edges} {
			impl.SerialOrder(nodes, some)
			if !slices.Equal(nodes[:cap(nodes)], wantNodes) || !slices.Equal(edges[:cap(edges)], wantEdges) {
				t.Fatal(wantNodes, "were changed, or", wantEdges)
			}
		}
	}
}

func TestCertifiedActsStay(t *testing.T) {
	for seed := range uint64(20) {
		acts := roomy(rolledCert(&dice{state: seed}, impl.MaxScript), impl.CertAct{Kind: 77})
		before := slices.Clone(acts[:cap(acts)])
		impl.CertRun(acts)
		impl.CertRun(acts[:impl.MaxScript+1])
		if !slices.Equal(acts[:cap(acts)], before) {
			t.Fatal("CertRun changed its acts")
		}
	}
}

// What is told of a history stays if the history, or an answer of before, is written over.
func TestToldOfHistoriesIsNewMemory(t *testing.T) {
	for _, words := range rightHistories() {
		h, order := roomy(words, impl.HOp{}), []int{5, 4, 3, 2, 1, 0}
		done, _ := impl.Committed(h)
		edges, _ := impl.Conflicts(h)
		found, left, _ := impl.PlayHistory(h)
		serial, _ := impl.SerialHistory(h, order)
		wantDone, wantEdges, wantFound, wantLeft, wantSerial := slices.Clone(done), slices.Clone(edges), slices.Clone(found), slices.Clone(left), slices.Clone(serial)
		scribbleList(h[:cap(h)], impl.HOp{Tx: -9, Kind: 9, Key: "scribbled"})
		scribbleList(order, -9)
		if !slices.Equal(done, wantDone) || !slices.Equal(edges, wantEdges) || !slices.Equal(found, wantFound) || !slices.Equal(left, wantLeft) || !slices.Equal(serial, wantSerial) {
			t.Fatalf("%.300v: what is told is of the history", words)
		}
		scribbleList(done[:cap(done)], -9)
		scribbleList(edges[:cap(edges)], edge(-9, -9))
		scribbleList(found[:cap(found)], "scribbled")
		scribbleList(left[:cap(left)], impl.Entry{Key: "scribbled"})
		scribbleList(serial[:cap(serial)], impl.HOp{Tx: -9})
		again := roomy(words, impl.HOp{})
		done, _ = impl.Committed(again)
		edges, _ = impl.Conflicts(again)
		found, left, _ = impl.PlayHistory(again)
		serial, _ = impl.SerialHistory(again, []int{5, 4, 3, 2, 1, 0})
		if !slices.Equal(done, wantDone) || !slices.Equal(edges, wantEdges) || !slices.Equal(found, wantFound) || !slices.Equal(left, wantLeft) || !slices.Equal(serial, wantSerial) {
			t.Fatalf("%.300v: what is told hangs on what became of the answer ahead", words)
		}
	}
}

func TestOrdersAreNewMemory(t *testing.T) {
	for _, numbers := range [][]int{{0, 1, 2}, {2, 1, 0}, {7}, run(0, 20)} {
		nodes, edges := slices.Clone(numbers), []impl.Edge{edge(99, 4)}
		order, c := impl.SerialOrder(nodes, edges)
		want := slices.Sorted(slices.Values(numbers))
		scribbleList(nodes, -9)
		scribbleList(edges, edge(-9, -9))
		if c != impl.OK || !slices.Equal(order, want) {
			t.Fatal(numbers, "the order is of the nodes", order)
		}
		nodes = slices.Clone(numbers)
		order, _ = impl.SerialOrder(nodes, nil)
		scribbleList(order[:cap(order)], -9)
		if !slices.Equal(nodes, numbers) {
			t.Fatal(numbers, "the nodes are of the order", nodes)
		}
	}
}

// No list of a run's answer is of another one's memory, nor of the acts'.
func TestCertifiedRunsAreNewMemory(t *testing.T) {
	acts := rolledCert(&dice{state: 6}, impl.MaxScript-12)
	acts = append(acts, ce("abort 0"), ce("abort 1"), ce("begin 0"), ce("begin 1"), ce("write 0 a 1"), ce("write 1 b 1"), ce("range 0 - -"), ce("range 0 - -"), ce("range 1 - -"), ce("commit 0"), ce("begin 0"), ce("range 0 - -"))
	told, left, _ := impl.CertRun(acts)
	for i := range told {
		told[i].List = slices.Clone(told[i].List)
	}
	left = slices.Clone(left)
	for i := range acts {
		replies, state, c := impl.CertRun(acts)
		code(t, "CertRun", c, impl.OK)
		list := replies[i].List
		scribbleList(list[:cap(list)], impl.Entry{Key: "scribbled"})
		for k := range replies {
			if k != i && !sameCert(replies[k], told[k]) {
				t.Fatal("replies", i, "and", k, "share memory")
			}
		}
		if !slices.Equal(state, left) {
			t.Fatal("reply", i, "shares memory with what is committed")
		}
	}
	own := slices.Clone(acts)
	replies, state, _ := impl.CertRun(own)
	scribbleList(own, impl.CertAct{Kind: -9, Key: "scribbled"})
	if !slices.EqualFunc(replies, told, sameCert) || !slices.Equal(state, left) {
		t.Fatal("the answer is of the acts")
	}
	scribbleList(state[:cap(state)], impl.Entry{Key: "scribbled"})
	if !slices.EqualFunc(replies, told, sameCert) {
		t.Fatal("what is committed shares memory with a reply")
	}
}
