package tests

import (
	"fmt"
	"math"
	"reflect"
	"slices"
	"strconv"
	"strings"

	"loop.example/g00208/impl"
)

var mvKinds = map[string]int{
	"begin": impl.MvBegin, "read": impl.MvRead, "scan": impl.MvScan, "put": impl.MvPut,
	"drop": impl.MvDrop, "commit": impl.MvCommit, "abort": impl.MvAbort, "sweep": impl.MvVacuum,
}

// mv reads an act: its kind, its transaction, a key, and what is put or the end of a scan; - stands for an empty text.
func mv(words string) impl.MvAct {
	w := append(strings.Fields(strings.ReplaceAll(words, "-", `""`)), "0", `""`, `""`)
	for i := range w {
		w[i] = strings.Trim(w[i], `"`)
	}
	tx, _ := strconv.Atoi(w[1])
	a := impl.MvAct{Kind: mvKinds[w[0]], Tx: tx}
	switch w[0] {
	case "scan":
		a.Key, a.To = w[2], w[3]
	case "put":
		a.Key, a.Value = w[2], w[3]
	case "read", "drop":
		a.Key = w[2]
	}
	return a
}

// showMv tells a reply: the word of its code, @time, 'value', key=value of each entry; - of nothing.
func showMv(r impl.MvReply) string {
	var words []string
	if r.Code != impl.OK {
		words = append(words, impl.CodeWord(r.Code))
	}
	if r.Time != 0 {
		words = append(words, "@"+strconv.Itoa(r.Time))
	}
	if r.Value != "" {
		words = append(words, "'"+r.Value+"'")
	}
	for _, e := range r.List {
		words = append(words, e.Key+"="+e.Value)
	}
	if len(words) == 0 {
		return "-"
	}
	return strings.Join(words, " ")
}

func showEntries(list []impl.Entry) string { return showMv(impl.MvReply{List: list}) }

func version(key string, begin, end int, value string) impl.Version {
	return impl.Version{Key: key, Begin: begin, End: end, Value: value}
}

func versions(list ...impl.Version) []impl.Version {
	return roomy(list, version("behind", 77, 77, "77"))
}

func wrote(key, value string) impl.Write { return impl.Write{Key: key, Value: value} }

func gone(key string) impl.Write { return impl.Write{Key: key, Gone: true} }

func opentx(snap int, writes ...impl.Write) impl.Tx {
	return impl.Tx{Open: true, Snap: snap, Writes: roomy(writes, wrote("behind", "77"))}
}

// base has lists with room behind their ends, and transactions that are not open behind those that are told.
func base(time int, list []impl.Version, txs ...impl.Tx) impl.Base {
	for len(txs) < impl.MaxOpen {
		txs = append(txs, impl.Tx{})
	}
	return impl.Base{Time: time, Versions: versions(list...), Txs: roomy(txs, opentx(77))}
}

// cloneBase has nil for lists that are empty, as these are the same.
func cloneBase(b impl.Base) impl.Base {
	b.Versions = append([]impl.Version(nil), b.Versions...)
	b.Txs = append([]impl.Tx(nil), b.Txs...)
	for i, tx := range b.Txs {
		b.Txs[i].Writes = append([]impl.Write(nil), tx.Writes...)
	}
	return b
}

func sameBase(a, b impl.Base) bool { return reflect.DeepEqual(cloneBase(a), cloneBase(b)) }

func sameMv(a, b impl.MvReply) bool {
	return a.Code == b.Code && a.Time == b.Time && a.Value == b.Value && slices.Equal(a.List, b.List)
}

// behindBase are a base's lists with what stands behind their ends.
func behindBase(b impl.Base) impl.Base {
	b.Versions = b.Versions[:cap(b.Versions)]
	b.Txs = slices.Clone(b.Txs[:cap(b.Txs)])
	for i, tx := range b.Txs {
		b.Txs[i].Writes = tx.Writes[:cap(tx.Writes)]
	}
	return b
}

func scribbleBase(b impl.Base) {
	for _, tx := range b.Txs[:cap(b.Txs)] {
		scribbleList(tx.Writes[:cap(tx.Writes)], wrote("scribbled", "9"))
	}
	scribbleList(b.Versions[:cap(b.Versions)], version("scribbled", -9, -9, "9"))
	scribbleList(b.Txs[:cap(b.Txs)], impl.Tx{Snap: -9})
}

// manyVersions are of as many keys, all of them there from time 1 on.
func manyVersions(count int) []impl.Version {
	var list []impl.Version
	for i := range count {
		list = append(list, version(fmt.Sprintf("k%04d", i), 1, 0, "v"))
	}
	return list
}

func manyWrites(count int) []impl.Write {
	var list []impl.Write
	for i := range count {
		list = append(list, wrote(fmt.Sprintf("w%d", i), "v"))
	}
	return list
}

// fewVersions have keys that were there always, once, twice with and without time between, and that are gone.
func fewVersions() []impl.Version {
	return versions(version("a", 1, 0, "a1"), version("b", 2, 3, "b2"), version("b", 3, 5, "b3"), version("b", 7, 0, ""),
		version("c", 1, 2, "c1"), version("c", 4, 6, "c4"), version("d", 7, 0, "d7"))
}

func rightBases() []impl.Base {
	key, value := strings.Repeat("k", impl.MaxKey), strings.Repeat("v", impl.MaxDatum)
	last := impl.MaxTime
	list := []impl.Base{
		base(0, nil), base(last, nil), base(1, versions(version("a", 1, 0, ""))), base(2, versions(version("a", 1, 2, ""))),
		base(last, versions(version("a", last, 0, "x"))), base(last, versions(version("a", 1, last, "x"), version("a", last, 0, "x"))),
		base(last, versions(version("a", last-1, last, "x"))), base(7, fewVersions()), base(9, fewVersions(), impl.Tx{}, opentx(9), opentx(0)),
		base(3, versions(version("a", 1, 2, "1"), version("a", 2, 3, "2"), version("a", 3, 0, "3"), version("a\x00", 1, 0, ""), version("b", 1, 0, ""))),
		base(3, versions(version("\x00", 3, 0, "\xff"), version("\xff", 2, 3, "\x00"), version("\xff\xff", 1, 0, ""))),
		base(1, versions(version(key, 1, 0, value)), opentx(1, wrote(key, value))), base(1, manyVersions(impl.MaxList)),
		base(0, nil, opentx(0), opentx(0), opentx(0), opentx(0)), base(5, nil, opentx(5), opentx(0), opentx(4)),
		base(5, nil, opentx(2, gone("a"), wrote("a\x00", ""), wrote("b", "x"), gone(key)), opentx(5, wrote("b", "y"))),
		base(1, manyVersions(2), opentx(1, manyWrites(impl.MaxWrites)...), impl.Tx{}, opentx(0, manyWrites(impl.MaxWrites)...)),
		base(7, fewVersions(), opentx(3, wrote("b", "mine"), gone("c"), wrote("e", "")), opentx(6, gone("a"), gone("d")), opentx(7), opentx(2)),
	}
	none := impl.Tx{Writes: []impl.Write{}}
	return append(list, impl.NewBase(), impl.Base{Versions: []impl.Version{}, Txs: []impl.Tx{none, none, none, none}})
}

// wrongVersions do not belong together in a base of time 9, each list for one reason.
func wrongVersions() [][]impl.Version {
	var list [][]impl.Version
	for _, times := range [][2]int{
		{0, 0}, {-1, 0}, {10, 0}, {0, 5}, {-1, 5}, {10, 11}, {3, 3}, {3, 2}, {3, 1}, {3, -1}, {3, 10}, {9, 10}, {9, 9}, {3, math.MinInt}, {3, math.MaxInt},
		{math.MinInt, 0}, {math.MaxInt, 0}, {math.MinInt, 5}, {math.MaxInt, 5}, {math.MinInt, math.MaxInt}, {math.MaxInt, math.MinInt}, {1 << 32, 0}, {3, 1<<32 + 4},
	} {
		wrong := version("b", times[0], times[1], "x")
		list = append(list, versions(wrong), versions(version("a", 1, 0, ""), wrong), versions(version("b", 1, 2, "x"), wrong), versions(wrong, version("c", 1, 0, "")))
	}
	list = append(list,
		versions(version("b", 1, 0, ""), version("a", 1, 0, "")), versions(version("a\x00", 1, 0, ""), version("a", 1, 0, "")),
		versions(version("a", 1, 0, ""), version("c", 1, 0, ""), version("b", 2, 0, "")), versions(version("b", 1, 2, ""), version("a", 2, 3, ""), version("b", 3, 0, "")),
		versions(version("a", 4, 5, ""), version("a", 1, 2, "")), versions(version("a", 4, 0, ""), version("a", 1, 4, "")), versions(version("a", 2, 3, ""), version("a", 1, 2, "")),
		versions(version("a", 1, 3, ""), version("a", 1, 3, "")), versions(version("a", 1, 0, ""), version("a", 1, 0, "")), versions(version("a", 1, 3, ""), version("a", 1, 4, "")),
		versions(version("a", 1, 3, ""), version("a", 2, 4, "")), versions(version("a", 1, 6, ""), version("a", 2, 4, "")), versions(version("a", 1, 0, ""), version("a", 2, 0, "")),
		versions(version("a", 1, 0, ""), version("a", 2, 3, "")), versions(version("a", 1, 3, ""), version("a", 3, 0, ""), version("a", 4, 0, "")),
		versions(version("a", 1, 2, ""), version("a", 2, 4, ""), version("a", 3, 0, "")), versions(version("", 1, 0, "")), versions(version("", 1, 0, ""), version("a", 1, 0, "")),
		versions(version(strings.Repeat("k", impl.MaxKey+1), 1, 0, "")), versions(version("a", 1, 0, strings.Repeat("v", impl.MaxDatum+1))), manyVersions(impl.MaxList+1),
		versions(version(strings.Repeat("k", impl.MaxText+1), 1, 0, "")), versions(version("a", 1, 2, strings.Repeat("v", impl.MaxText+1))))
	return list
}

// wrongTxs are not right in a base of time 9, each for one reason.
func wrongTxs() []impl.Tx {
	list := []impl.Tx{
		{Snap: 1}, {Snap: -1}, {Snap: math.MaxInt}, {Snap: math.MinInt}, {Writes: []impl.Write{wrote("a", "")}}, {Writes: []impl.Write{{}}},
		opentx(-1), opentx(10), opentx(math.MinInt), opentx(math.MaxInt), opentx(1<<32 + 1), opentx(1, manyWrites(impl.MaxWrites+1)...), opentx(1, manyWrites(impl.MaxList+1)...),
		opentx(1, wrote("b", ""), wrote("a", "")), opentx(1, wrote("a", "x"), wrote("a", "x")), opentx(1, gone("a"), wrote("a", "x")), opentx(1, gone("a"), gone("c"), gone("b")),
		opentx(1, wrote("a\x00", ""), wrote("a", "")), opentx(1, wrote("", "x")), opentx(1, gone("")), opentx(1, wrote("a", ""), wrote("b", ""), wrote("c", ""), gone("c")),
		opentx(1, impl.Write{Key: "a", Value: "x", Gone: true}), opentx(1, wrote("a", "x"), impl.Write{Key: "b", Value: "\x00", Gone: true}),
		opentx(1, wrote(strings.Repeat("k", impl.MaxKey+1), "")), opentx(1, gone(strings.Repeat("k", impl.MaxKey+1))), opentx(1, wrote("a", strings.Repeat("v", impl.MaxDatum+1))),
	}
	return list
}

func wrongBases() []impl.Base {
	var list []impl.Base
	for _, time := range []int{-1, impl.MaxTime + 1, math.MinInt, math.MaxInt, 1 << 32} {
		list = append(list, base(time, nil))
	}
	for _, v := range wrongVersions() {
		list = append(list, base(9, v), base(9, v, opentx(3)))
	}
	for _, tx := range wrongTxs() {
		list = append(list, base(9, nil, tx), base(9, fewVersions(), opentx(9), opentx(9), opentx(9), tx))
	}
	for _, count := range []int{0, 1, impl.MaxOpen - 1, impl.MaxOpen + 1, impl.MaxList + 1} {
		list = append(list, impl.Base{Time: 3, Txs: make([]impl.Tx, count)}, impl.Base{Txs: make([]impl.Tx, count)})
	}
	return append(list, impl.Base{}, base(0, versions(version("a", 1, 0, ""))), base(0, nil, opentx(1)))
}

// someMvActs go wrong on some bases, and well on others.
func someMvActs() []impl.MvAct {
	key, value := strings.Repeat("k", impl.MaxKey), strings.Repeat("v", impl.MaxDatum)
	var acts []impl.MvAct
	for _, kind := range []int{math.MinInt, -1, 0, impl.MvBegin, impl.MvRead, impl.MvScan, impl.MvPut, impl.MvDrop, impl.MvCommit, impl.MvAbort, impl.MvVacuum, 9, 1<<32 + 1, math.MaxInt} {
		for _, tx := range []int{math.MinInt, -1, 0, 1, impl.MaxOpen - 1, impl.MaxOpen, math.MaxInt} {
			acts = append(acts, impl.MvAct{Kind: kind, Tx: tx}, impl.MvAct{Kind: kind, Tx: tx, Key: "b", Value: "new", To: "d"})
		}
		acts = append(acts, impl.MvAct{Kind: kind, Key: key, Value: value, To: key}, impl.MvAct{Kind: kind, Key: key + "k"},
			impl.MvAct{Kind: kind, Key: "a", Value: value + "v"}, impl.MvAct{Kind: kind, Key: "a", To: key + "k"})
	}
	return acts
}
