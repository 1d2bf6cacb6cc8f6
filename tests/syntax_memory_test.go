package tests

import (
	"math"
	"reflect"
	"slices"
	"strings"
	"testing"

	"loop.example/g00208/impl"
)

// someStatements are right and wrong trees.
func someStatements() []impl.Tree {
	var list []impl.Tree
	for _, c := range statementTrees {
		list = append(list, roomyTree(c.tree))
	}
	a := field("a")
	list = append(list, impl.Tree{}, impl.Tree{Kind: math.MinInt}, impl.Tree{Kind: math.MaxInt, N: math.MaxInt, Name: longName}, a, query(), query(from("t")), queryOf(agg("sum", agg("count"))), insertInto("t"), insertInto("from", a), updateOf("t", where(a)), deleteFrom("t", where(a), where(a)), query(item(a), from("t"), limit(-1)), queryOf(chain(40)), insertInto("t", slices.Repeat([]impl.Tree{a}, impl.MaxList+1)...), deleteFrom(strings.Repeat("t", impl.MaxText+1)))
	d := &dice{state: 59}
	for range 30 {
		n := rolledStatement(d, 9)
		list = append(list, roomyTree(n))
		all := nodesOf(&n)
		bendNode(d, all[d.below(len(all))])
		list = append(list, roomyTree(n))
	}
	return list
}

// someSources are texts of statements, and such as are none.
func someSources() []string {
	list := []string{"", " ", "select", "select a from t where count(*)", "select ((((((((((((( 1 ))))))))))))) from t", "a !", "12ab", strings.Repeat("a ", 300), strings.Repeat("a", impl.MaxSource), strings.Repeat(" ", impl.MaxSource+1), strings.Repeat(" ", impl.MaxText+1)}
	for _, c := range statementTrees {
		list = append(list, c.text, c.text+" !", c.text+" from", c.text[:len(c.text)/2], strings.ToUpper(c.text))
	}
	return list
}

// askedOfStatements are all calls of chapter 11 with some arguments.
func askedOfStatements() []func() []any {
	var calls []func() []any
	ask := func(f func() []any) { calls = append(calls, f) }
	for _, s := range someSources() {
		ask(func() []any { list, c, at := impl.SqlTokens(s); return []any{list, c, at} })
		ask(func() []any { n, c, at := impl.ParseSql(s); return []any{cloneTree(n), c, at} })
	}
	for _, n := range someStatements() {
		ask(func() []any { return []any{impl.SqlOK(n), impl.TreeSize(n)} })
		ask(func() []any { s, c := impl.PrintSql(n); return []any{s, c} })
	}
	return calls
}

func TestStatementsStay(t *testing.T) {
	for _, n := range someStatements() {
		before := cloneTree(behindTree(n))
		impl.SqlOK(n)
		impl.TreeSize(n)
		impl.PrintSql(n)
		if !reflect.DeepEqual(cloneTree(behindTree(n)), before) {
			t.Fatalf("%s was changed", drawn(before))
		}
	}
}

func TestParsedTreesAreNewMemory(t *testing.T) {
	for _, c := range statementTrees {
		first, _, _ := impl.ParseSql(c.text)
		scribbleTree(first)
		if again, got, _ := impl.ParseSql(c.text); got != impl.OK || !sameTree(again, c.tree) {
			t.Errorf("%s hangs on the answer ahead: %s %d", c.text, drawn(again), got)
		}
	}
}

func TestTokensAreNewMemory(t *testing.T) {
	for _, c := range someTokens {
		first, _, _ := impl.SqlTokens(c.text)
		scribbleList(first[:cap(first)], impl.Token{Kind: -9})
		if again, got, _ := impl.SqlTokens(c.text); got != impl.OK || !slices.Equal(again, c.list) {
			t.Errorf("%s hangs on the answer ahead: %v %d", c.text, again, got)
		}
	}
}

// Each list of kids is written over by itself, with what stands behind its end; the others stay.
func TestListsOfKidsShareNothing(t *testing.T) {
	d := &dice{state: 60}
	texts := []string{}
	for _, c := range statementTrees {
		texts = append(texts, c.text)
	}
	for range 60 {
		texts = append(texts, printByWords(rolledStatement(d, 9)))
	}
	for _, s := range texts {
		first, _, _ := impl.ParseSql(s)
		want := cloneTree(first)
		for i := range nodesOf(&first) {
			n, _, _ := impl.ParseSql(s)
			p := nodesOf(&n)[i]
			kept := slices.Clone(p.Kids)
			scribbleList(p.Kids[:cap(p.Kids)], impl.Tree{Kind: -9})
			p.Kids = kept
			if !sameTree(n, want) || !sameTree(first, want) {
				t.Fatalf("%s: the kids of node %d share memory: %s", s, i, drawn(n))
			}
		}
	}
}

// An empty list and nil are the same.
func TestEmptyListsOfStatements(t *testing.T) {
	for _, none := range [][]impl.Tree{nil, {}} {
		n := impl.Tree{Kind: impl.NdDelete, Name: "t", Kids: none}
		if s, got := impl.PrintSql(n); !impl.SqlOK(n) || got != impl.OK || s != "delete from t" || impl.TreeSize(n) != 1 {
			t.Error("without parts", s, got)
		}
		count := impl.Tree{Kind: impl.NdAgg, Name: "count", Kids: none}
		if s, got := impl.PrintSql(queryOf(count)); got != impl.OK || s != "select count(*) from t" {
			t.Error("without an operand", s, got)
		}
		for _, kind := range []int{impl.NdSelect, impl.NdInsert, impl.NdUpdate} {
			if impl.SqlOK(impl.Tree{Kind: kind, Name: "t", Kids: none}) || impl.SqlOK(impl.Tree{Kind: kind, Kids: none}) {
				t.Error("right without parts", kind)
			}
		}
	}
}
