package tests

import (
	"slices"
	"testing"

	"loop.example/g00208/impl"
)

// eachRun calls do with the values in every order.
func eachRun(list []impl.Value, do func([]impl.Value)) {
	var places []int
	for i := range list {
		places = append(places, i)
	}
	eachOrder(places, func(order []int) bool {
		r := make([]impl.Value, 0, len(list))
		for _, at := range order {
			r = append(r, list[at])
		}
		do(r)
		return true
	})
}

func TestAggregates(t *testing.T) {
	null := impl.Value{}
	for _, c := range []struct {
		list                 []impl.Value
		count, sum, min, max impl.Value
		sumCode              int
	}{
		{nil, num(0), null, null, null, 0}, {row(null), num(0), null, null, null, 0}, {row(null, null, null), num(0), null, null, null, 0},
		{row(num(0)), num(1), num(0), num(0), num(0), 0}, {row(num(7), null), num(1), num(7), num(7), num(7), 0}, {row(num(3), null, num(-1), num(3)), num(3), num(5), num(-1), num(3), 0}, {row(num(-5), num(-3)), num(2), num(-8), num(-5), num(-3), 0},
		{row(num(greatest)), num(1), num(greatest), num(greatest), num(greatest), 0}, {row(num(least)), num(1), num(least), num(least), num(least), 0}, {row(num(least), num(greatest)), num(2), num(-1), num(least), num(greatest), 0},
		{row(num(greatest), num(1)), num(2), null, num(1), num(greatest), impl.ErrRange}, {row(num(least), null, num(-1)), num(2), null, num(least), num(-1), impl.ErrRange}, {row(num(greatest-1), num(1)), num(2), num(greatest), num(1), num(greatest - 1), 0}, {row(num(least+1), num(-1)), num(2), num(least), num(least + 1), num(-1), 0},
		{row(num(greatest), num(1), num(-1)), num(3), null, num(-1), num(greatest), impl.ErrRange}, {row(num(greatest), num(-1), num(1)), num(3), num(greatest), num(-1), num(greatest), 0}, {row(num(-1), num(greatest), num(1)), num(3), num(greatest), num(-1), num(greatest), 0}, {row(num(1), num(greatest), num(-1)), num(3), null, num(-1), num(greatest), impl.ErrRange}, {row(num(least), num(-1), num(1)), num(3), null, num(least), num(1), impl.ErrRange}, {row(num(1), num(least), null, num(-1)), num(3), num(least), num(least), num(1), 0},
		{row(flag(1), flag(0), null), num(2), null, flag(0), flag(1), impl.ErrType}, {row(text("b"), text("a"), text("ab")), num(3), null, text("a"), text("b"), impl.ErrType}, {row(raw("\xff"), raw("")), num(2), null, raw(""), raw("\xff"), impl.ErrType}, {row(text(""), null), num(1), null, text(""), text(""), impl.ErrType},
		{row(num(1), text("a")), num(2), null, num(1), text("a"), impl.ErrType}, {row(text("a"), num(1), flag(1), raw("a"), flag(0)), num(5), null, flag(0), raw("a"), impl.ErrType}, {row(num(greatest), num(1), text("a")), num(3), null, num(1), text("a"), impl.ErrType}, {row(num(greatest), flag(1)), num(2), null, flag(1), num(greatest), impl.ErrType},
	} {
		wantAggregate(t, "count", c.list, c.count, impl.OK)
		wantAggregate(t, "sum", c.list, c.sum, c.sumCode)
		wantAggregate(t, "min", c.list, c.min, impl.OK)
		wantAggregate(t, "max", c.list, c.max, impl.OK)
	}
	wantAggregate(t, "count", []impl.Value{}, num(0), impl.OK)
	for _, name := range []string{"sum", "min", "max"} {
		wantAggregate(t, name, []impl.Value{}, null, impl.OK)
	}
}

// wantAllAggregates holds all aggregates of a list against the document's words.
func wantAllAggregates(t *testing.T, list []impl.Value) {
	t.Helper()
	for _, name := range aggregates {
		want, wanted := aggByWords(name, list)
		wantAggregate(t, name, list, want, wanted)
	}
}

// In every order of the values, null among them, an aggregate is the same, but for a sum that goes out of range.
func TestAggregatesInEveryOrder(t *testing.T) {
	null := impl.Value{}
	ranges := map[int]int{}
	for _, list := range [][]impl.Value{
		{num(1), num(2), num(3), null, num(-4), num(2)}, {text("b"), null, text("a"), text(""), text("b"), null}, {flag(1), flag(0), null, flag(1)}, {raw("\x00"), raw(""), raw("\xff"), null}, {num(1), text("a"), flag(1), raw("a"), null, num(greatest)}, {null, null, null},
		{num(greatest), num(least), num(greatest), num(least), num(1), null}, {num(greatest), num(greatest), num(least), num(-1), num(1), num(1)}, {num(greatest), num(1), num(-1), num(-2), num(2)}, {num(greatest), num(1), num(1), null}, {num(least), num(-1), num(0), null, num(1)},
	} {
		first := map[string]impl.Value{}
		for _, name := range []string{"count", "min", "max"} {
			first[name], _ = aggByWords(name, list)
		}
		sums := map[impl.Value]int{}
		eachRun(list, func(r []impl.Value) {
			wantAllAggregates(t, r)
			for name, v := range first {
				wantAggregate(t, name, r, v, impl.OK)
			}
			v, got := impl.AggValue("sum", r)
			ranges[got]++
			if got == impl.OK {
				sums[v]++
			}
		})
		if len(sums) > 1 {
			t.Error("sums of", list, "are", sums)
		}
	}
	if ranges[impl.OK] < 100 || ranges[impl.ErrRange] < 100 || ranges[impl.ErrType] < 100 {
		t.Error("few of a kind", ranges)
	}
}

func TestRolledAggregates(t *testing.T) {
	d := &dice{state: 150}
	all := append(risingValues(), impl.Value{}, num(1), num(-1))
	count := map[int]int{}
	for range 6000 {
		list := make([]impl.Value, 0, 12)
		kind := d.below(6)
		for range d.below(10) {
			v := all[d.below(len(all))]
			if kind < impl.VaBytes && v.Kind != kind && d.below(20) > 0 {
				v = append(valuesOfType(max(kind, 1)), impl.Value{})[d.below(3)]
			}
			if kind == 5 {
				v = num(rolledInt(d))
			}
			list = append(list, v)
		}
		if d.below(20) == 0 && len(list) > 0 {
			list[d.below(len(list))] = wrongValues()[d.below(len(wrongValues()))]
		}
		wantAllAggregates(t, list)
		_, code := aggByWords("sum", list)
		count[code]++
	}
	for _, code := range []int{impl.OK, impl.ErrBad, impl.ErrType, impl.ErrRange} {
		if count[code] < 100 {
			t.Error("few of", impl.CodeWord(code), count)
		}
	}
}

// A name or a value that is not right counts ahead of types and sums, a long text or list ahead of all.
func TestOrderOfCodesOfAggregates(t *testing.T) {
	big := row(num(greatest), num(1))
	lists := [][]impl.Value{nil, row(num(1)), row(text("a")), big, row(impl.Value{})}
	for _, v := range wrongValues() {
		for _, list := range [][]impl.Value{row(v), row(v, num(1)), row(num(1), v), row(impl.Value{}, v), append(slices.Clone(big), v), row(text("a"), v, num(1)), append(row(v), big...)} {
			for _, name := range aggregates {
				wantAggregate(t, name, list, impl.Value{}, impl.ErrBad)
			}
			lists = append(lists, list)
		}
	}
	for _, list := range lists {
		for _, name := range slices.Concat(noSigns(), unarySigns, binarySigns) {
			wantAggregate(t, name, list, impl.Value{}, impl.ErrBad)
		}
		for _, long := range longTexts() {
			wantAggregate(t, long, list, impl.Value{}, impl.ErrLong)
		}
	}
	for _, list := range [][]impl.Value{append(slices.Clone(big), text("a")), append(row(text("a")), big...), row(num(greatest), flag(0), num(1)), row(num(greatest), num(1), impl.Value{}, raw(""))} {
		wantAggregate(t, "sum", list, impl.Value{}, impl.ErrType)
	}
}

func TestManyValues(t *testing.T) {
	for _, v := range []impl.Value{{}, num(1), num(-2), num(greatest / impl.MaxList), num(least / impl.MaxList), num(greatest/impl.MaxList + 1), num(least/impl.MaxList - 1), text("a"), flag(2)} {
		for _, size := range []int{9, 16, 17, impl.MaxTree, impl.MaxList - 1, impl.MaxList, impl.MaxList + 1, 2 * impl.MaxList} {
			wantAllAggregates(t, slices.Repeat(row(v), size))
			wantAggregate(t, "none", slices.Repeat(row(v), size), impl.Value{}, map[bool]int{true: impl.ErrLong, false: impl.ErrBad}[size > impl.MaxList])
		}
	}
	list := slices.Repeat(row(num(1), impl.Value{}), impl.MaxList/2)
	wantAggregate(t, "count", list, num(impl.MaxList/2), impl.OK)
	wantAggregate(t, "sum", list, num(impl.MaxList/2), impl.OK)
	wantAggregate(t, "sum", append(list, num(1)), impl.Value{}, impl.ErrLong)
}
