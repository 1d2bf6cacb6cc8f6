package tests

import (
	"fmt"
	"math"
	"slices"
	"strings"

	"loop.example/g00208/impl"
)

var hiKinds = map[byte]int{'r': impl.HiRead, 'w': impl.HiWrite, 'c': impl.HiCommit, 'a': impl.HiAbort}

// history reads acts: r of a read, w of a write, c or a of an end, the transaction, a key, = and a value; it has room behind its end.
func history(words string) []impl.HOp {
	var h []impl.HOp
	for _, w := range strings.Fields(words) {
		op := impl.HOp{Kind: hiKinds[w[0]], Tx: int(w[1] - '0')}
		op.Key, op.Value, _ = strings.Cut(w[2:], "=")
		h = append(h, op)
	}
	return roomy(h, impl.HOp{Tx: 77, Kind: 77})
}

func showHistory(h []impl.HOp) string {
	var words []string
	for _, op := range h {
		w := fmt.Sprintf("%c%d%s", " rwca"[op.Kind], op.Tx, op.Key)
		if op.Kind == impl.HiWrite {
			w += "=" + op.Value
		}
		words = append(words, w)
	}
	return strings.Join(words, " ")
}

func edge(from, to int) impl.Edge { return impl.Edge{From: from, To: to} }

// edgesOf reads edges, each of two digits.
func edgesOf(words string) []impl.Edge {
	var list []impl.Edge
	for _, w := range strings.Fields(words) {
		list = append(list, edge(int(w[0]-'0'), int(w[1]-'0')))
	}
	return list
}

// manyOps are as many acts of some transactions, the last of each its end.
func manyOps(count int) []impl.HOp {
	var h []impl.HOp
	for i := range count {
		op := impl.HOp{Tx: i % 6, Kind: impl.HiRead, Key: fmt.Sprint("k", i%7)}
		if i >= count-6 {
			op = impl.HOp{Tx: i % 6, Kind: impl.HiCommit}
		} else if i%5 == 0 {
			op.Kind, op.Value = impl.HiWrite, fmt.Sprint(i)
		}
		h = append(h, op)
	}
	return h
}

func rightHistories() [][]impl.HOp {
	key, value := strings.Repeat("k", impl.MaxKey), strings.Repeat("v", impl.MaxDatum)
	list := [][]impl.HOp{nil, {}, manyOps(impl.MaxHist), manyOps(impl.MaxHist - 1), manyOps(6)}
	for _, words := range []string{
		"c0", "a0", "c5", "a5", "c3 a1 c0", "r0x c0", "w0x=1 c0", "w0x= c0", "r5x a5", "r0x w0x=1 r0x c0", "r0x r1x c0 c1", "r0x w1x=1 c1 w2x=9 a2 w0y=2 c0 r3x c3",
		"w0x=1 w1x=2 w0y=1 w1y=2 c0 c1", "w0x=1 w1x=2 w1y=2 w0y=1 c1 c0", "r0x r1x w0x=1 w1x=2 c0 c1", "w0x=1 r1x a0 c1", "w0x=1 r1x w1y=2 c1 c0",
		"r0x r1y w0y=1 w1x=1 c0 c1", "r2x w1x=1 w0x=2 c0 c1 c2", "w5a=1 r4a w4b=1 r3b w3c=1 r2c w2d=1 r1d w1e=1 r0e c0 c1 c2 c3 c4 c5",
		"r0\x00 w1\x00=\xff r0\xff w1\xff=\x00 c0 a1", "w0a=1 w0ab=2 r1a r1ab w2a\x00=3 c2 c1 c0",
	} {
		list = append(list, history(words))
	}
	wide := []impl.HOp{{Kind: impl.HiWrite, Key: key, Value: value}, {Tx: 5, Kind: impl.HiRead, Key: key}, {Kind: impl.HiCommit}, {Tx: 5, Kind: impl.HiCommit}}
	return append(list, wide)
}

// wrongOps are not right by themselves, each for one reason.
func wrongOps() []impl.HOp {
	key, value := strings.Repeat("k", impl.MaxKey+1), strings.Repeat("v", impl.MaxDatum+1)
	long := strings.Repeat("t", impl.MaxText+1)
	list := []impl.HOp{
		{Tx: 1, Kind: impl.HiRead}, {Tx: 1, Kind: impl.HiRead, Key: key}, {Tx: 1, Kind: impl.HiRead, Key: "x", Value: "1"}, {Tx: 1, Kind: impl.HiRead, Key: "x", Value: "\x00"}, {Tx: 1, Kind: impl.HiRead, Key: long},
		{Tx: 1, Kind: impl.HiWrite}, {Tx: 1, Kind: impl.HiWrite, Value: "1"}, {Tx: 1, Kind: impl.HiWrite, Key: key, Value: "1"}, {Tx: 1, Kind: impl.HiWrite, Key: "x", Value: value}, {Tx: 1, Kind: impl.HiWrite, Key: "x", Value: long},
	}
	for _, kind := range []int{math.MinInt, -1, 0, 5, 6, 1<<32 + impl.HiRead, math.MaxInt} {
		list = append(list, impl.HOp{Tx: 1, Kind: kind}, impl.HOp{Tx: 1, Kind: kind, Key: "x"}, impl.HOp{Tx: 1, Kind: kind, Key: "x", Value: "1"})
	}
	return list
}

// wrongHistories have at most MaxHist acts, and one fault each.
func wrongHistories() [][]impl.HOp {
	var list [][]impl.HOp
	for _, op := range wrongOps() {
		list = append(list, slices.Concat([]impl.HOp{op}, history("c1")), slices.Concat(history("r0x c0"), []impl.HOp{op}, history("a1")), slices.Concat(history("r1x w0x=1"), []impl.HOp{op}, history("c1 c0")))
	}
	for _, kind := range []int{impl.HiCommit, impl.HiAbort} {
		for _, op := range []impl.HOp{{Kind: kind, Key: "x"}, {Kind: kind, Value: "1"}, {Kind: kind, Key: "x", Value: "1"}, {Kind: kind, Key: "\x00"}} {
			list = append(list, []impl.HOp{op}, slices.Concat(history("r0x r1x"), []impl.HOp{op}, history("c1")))
		}
	}
	for _, tx := range []int{math.MinInt, -1, impl.MaxTxs, impl.MaxTxs + 1, 1 << 32, math.MaxInt} {
		end := impl.HOp{Tx: tx, Kind: impl.HiCommit}
		list = append(list, []impl.HOp{end}, slices.Concat(history("r0x c0"), []impl.HOp{end}), []impl.HOp{{Tx: tx, Kind: impl.HiRead, Key: "x"}, end}, []impl.HOp{{Tx: tx, Kind: impl.HiAbort}})
	}
	for _, words := range []string{
		"c0 r0x", "c0 w0x=1", "c0 c0", "c0 a0", "a0 c0", "a0 a0", "a0 r0x", "c0 r0x c0", "a0 w0x=1 c0", "r0x c0 r1x c1 r0x", "r1x c1 r0x c0 c1", "c5 c0 c5",
		"r0x", "w0x=1", "r0x c1", "c1 r0x", "r0x r1x c0", "r0x r1x c1", "r5x c0 a1 c2 c3 c4", "w0x=1 c0 w1x=1 c2", "r0x c0 r1x", "c0 r5x",
	} {
		list = append(list, history(words))
	}
	return list
}

// rolledHistory has some transactions in each other's midst; few keys make their conflicts go round.
func rolledHistory(d *dice) []impl.HOp {
	txs, keys := 2+d.below(5), 1+d.below(8)
	most := txs + d.below(impl.MaxHist-txs+1)
	if d.below(2) == 0 {
		most = txs + d.below(12)
	}
	open := run(0, txs)
	var h []impl.HOp
	for len(open) > 0 {
		i := d.below(len(open))
		op := impl.HOp{Tx: open[i], Key: fmt.Sprintf("k%d", d.below(keys))}
		switch n := d.below(10); {
		case len(h)+len(open) >= most || n == 0:
			op = impl.HOp{Tx: open[i], Kind: impl.HiCommit}
			if d.below(5) == 0 {
				op.Kind = impl.HiAbort
			}
			open = slices.Delete(open, i, i+1)
		case n < 6:
			op.Kind = impl.HiRead
		default:
			op.Kind, op.Value = impl.HiWrite, fmt.Sprint(len(h))
		}
		h = append(h, op)
	}
	return h
}

// committedByWords asks each transaction for its last act.
func committedByWords(h []impl.HOp) []int {
	var list []int
	for tx := range 6 {
		if slices.Contains(h, impl.HOp{Tx: tx, Kind: impl.HiCommit}) {
			list = append(list, tx)
		}
	}
	return list
}

// conflictsByWords asks each pair of transactions for acts that meet.
func conflictsByWords(h []impl.HOp) []impl.Edge {
	var list []impl.Edge
	done := committedByWords(h)
	for _, from := range done {
		for _, to := range done {
			if from != to && isAhead(h, from, to) {
				list = append(list, edge(from, to))
			}
		}
	}
	return list
}

func isAhead(h []impl.HOp, from, to int) bool {
	for i, a := range h {
		for k, b := range h {
			touch := a.Kind <= impl.HiWrite && b.Kind <= impl.HiWrite && a.Key == b.Key
			if i < k && a.Tx == from && b.Tx == to && touch && a.Kind+b.Kind > 2*impl.HiRead {
				return true
			}
		}
	}
	return false
}

// playedByWords finds each read's value by going back from it to the last write that counts.
func playedByWords(h []impl.HOp) ([]string, []impl.Entry) {
	done := committedByWords(h)
	last := func(key string, before int) (string, bool) {
		for i := before - 1; i >= 0; i-- {
			if h[i].Kind == impl.HiWrite && h[i].Key == key && slices.Contains(done, h[i].Tx) {
				return h[i].Value, true
			}
		}
		return "", false
	}
	var found []string
	left := map[string]string{}
	for i, op := range h {
		if op.Kind == impl.HiRead && slices.Contains(done, op.Tx) {
			value, _ := last(op.Key, i)
			found = append(found, value)
		}
		if value, ok := last(op.Key, len(h)); ok {
			left[op.Key] = value
		}
	}
	return found, entriesOf(left)
}

// eachOrder calls do with all orders of a rising list, the first ones first, until it says no.
func eachOrder(list []int, do func([]int) bool) bool {
	if len(list) == 0 {
		return do(nil)
	}
	for i, first := range list {
		rest := slices.Delete(slices.Clone(list), i, i+1)
		if !eachOrder(rest, func(order []int) bool { return do(append([]int{first}, order...)) }) {
			return false
		}
	}
	return true
}

func keepsEdges(order []int, edges []impl.Edge) bool {
	for _, e := range edges {
		from, to := slices.Index(order, e.From), slices.Index(order, e.To)
		if from >= 0 && to >= 0 && from >= to {
			return false
		}
	}
	return true
}

// orderByWords is the first of all orders that keep the edges: at each place the least node that may stand there.
func orderByWords(nodes []int, edges []impl.Edge) ([]int, bool) {
	var found []int
	none := eachOrder(slices.Sorted(slices.Values(nodes)), func(order []int) bool {
		if keepsEdges(order, edges) {
			found = order
			return false
		}
		return true
	})
	return found, !none
}
