package tests

import (
	"fmt"
	"reflect"
	"slices"
	"sort"
	"strings"

	"loop.example/g00208/impl"
)

// valueOf is what a tree that is laid has under a key.
func valueOf(key string) string { return "of " + key }

// leaf has lists with room behind their ends, as has inner.
func leaf(keys ...string) impl.Node {
	var values []string
	for _, key := range keys {
		values = append(values, valueOf(key))
	}
	return impl.Node{Leaf: true, Keys: roomy(keys, "behind"), Vals: roomy(values, "behind")}
}

func inner(kids []int, keys ...string) impl.Node {
	return impl.Node{Keys: roomy(keys, "behind"), Kids: roomy(kids, 77)}
}

func forest(nodes ...impl.Node) impl.Forest { return impl.Forest{Nodes: roomy(nodes, leaf("behind"))} }

// layTree lays a tree: a leaf is its keys, a letter each; another node stands in brackets, kids and keys by turns.
func layTree(t string) (impl.Forest, int) {
	var nodes []impl.Node
	if t == "" {
		return impl.Forest{}, -1
	}
	words := strings.Fields(strings.NewReplacer("(", " ( ", ")", " ) ").Replace(t))
	root, _ := layWords(&nodes, words)
	return forest(nodes...), root
}

// layWords lays the first node of some words behind the others, and answers the words behind it.
func layWords(nodes *[]impl.Node, words []string) (int, []string) {
	if words[0] != "(" {
		*nodes = append(*nodes, leaf(strings.Split(words[0], "")...))
		return len(*nodes) - 1, words[1:]
	}
	var kids []int
	var keys []string
	kid, words := layWords(nodes, words[1:])
	kids = append(kids, kid)
	for words[0] != ")" {
		keys = append(keys, words[0])
		kid, words = layWords(nodes, words[1:])
		kids = append(kids, kid)
	}
	*nodes = append(*nodes, inner(kids, keys...))
	return len(*nodes) - 1, words[1:]
}

// showTree is the text that a tree is laid from.
func showTree(f impl.Forest, root int) string {
	if root == -1 {
		return ""
	}
	n := f.Nodes[root]
	if n.Leaf {
		return strings.Join(n.Keys, "")
	}
	var b strings.Builder
	b.WriteString("(" + showTree(f, n.Kids[0]))
	for i, key := range n.Keys {
		b.WriteString(" " + key + " " + showTree(f, n.Kids[i+1]))
	}
	return b.String() + ")"
}

// showNodes are the nodes from one on: a leaf's keys, or kids by their numbers and keys by turns.
func showNodes(f impl.Forest, from int) string {
	var list []string
	for _, n := range f.Nodes[from:] {
		words := []string{strings.Join(n.Keys, "")}
		if !n.Leaf {
			words[0] = fmt.Sprint(n.Kids[0])
			for i, key := range n.Keys {
				words = append(words, key, fmt.Sprint(n.Kids[i+1]))
			}
		}
		list = append(list, strings.Join(words, " "))
	}
	return strings.Join(list, ", ")
}

// padded has leaves behind a forest, so that it has as many nodes as asked.
func padded(f impl.Forest, count int) impl.Forest {
	nodes := slices.Clone(f.Nodes)
	for len(nodes) < count {
		nodes = append(nodes, leaf("pad"))
	}
	return forest(nodes...)
}

// cloneNode has nil for lists that are empty, as these are the same.
func cloneNode(n impl.Node) impl.Node {
	n.Keys = append([]string(nil), n.Keys...)
	n.Vals = append([]string(nil), n.Vals...)
	n.Kids = append([]int(nil), n.Kids...)
	return n
}

func cloneForest(f impl.Forest) impl.Forest {
	var nodes []impl.Node
	for _, n := range f.Nodes {
		nodes = append(nodes, cloneNode(n))
	}
	return impl.Forest{Nodes: nodes}
}

func sameNode(a, b impl.Node) bool {
	return a.Leaf == b.Leaf && slices.Equal(a.Keys, b.Keys) && slices.Equal(a.Vals, b.Vals) && slices.Equal(a.Kids, b.Kids)
}

func sameForest(a, b impl.Forest) bool { return slices.EqualFunc(a.Nodes, b.Nodes, sameNode) }

func noForest(f impl.Forest) bool { return reflect.DeepEqual(f, impl.Forest{}) }

// behindForest is a forest with what stands behind the ends of its lists.
func behindForest(f impl.Forest) impl.Forest {
	var nodes []impl.Node
	for _, n := range f.Nodes[:cap(f.Nodes)] {
		n.Keys, n.Vals, n.Kids = n.Keys[:cap(n.Keys)], n.Vals[:cap(n.Vals)], n.Kids[:cap(n.Kids)]
		nodes = append(nodes, n)
	}
	return impl.Forest{Nodes: nodes}
}

func scribbleList[E any](list []E, with E) {
	for i := range list {
		list[i] = with
	}
}

// scribbleForest writes over the nodes last, as they lead to the other lists.
func scribbleForest(f impl.Forest) {
	for _, n := range behindForest(f).Nodes {
		scribbleList(n.Keys, "scribbled")
		scribbleList(n.Vals, "scribbled")
		scribbleList(n.Kids, -9)
	}
	scribbleList(f.Nodes[:cap(f.Nodes)], impl.Node{Keys: []string{"scribbled"}})
}

// entriesOf are a model's entries, rising.
func entriesOf(has map[string]string) []impl.Entry {
	var list []impl.Entry
	for key, value := range has {
		list = append(list, impl.Entry{Key: key, Value: value})
	}
	sort.Slice(list, func(i, j int) bool { return list[i].Key < list[j].Key })
	return list
}

// keysOf are as many keys of several lengths, in no order, none twice.
func keysOf(count int) []string {
	d := &dice{state: uint64(count)}
	var list []string
	for i := range count {
		list = append(list, fmt.Sprintf("%c%0*d", 'a'+i%3, 1+i%5, i))
	}
	for i := range list {
		k := d.below(i + 1)
		list[i], list[k] = list[k], list[i]
	}
	return list
}

// grown is the tree of these keys, put one behind the other.
func grown(keys ...string) (impl.Forest, int) {
	f, root := impl.Forest{}, -1
	for _, key := range keys {
		f, root, _ = impl.TreePut(f, root, key, valueOf(key))
		compact, roots, _ := impl.Compact(f, []int{root})
		f, root = compact, roots[0]
	}
	return f, root
}
