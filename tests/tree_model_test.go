package tests

import (
	"fmt"
	"slices"
	"testing"

	"loop.example/g00208/impl"
)

// treeModel makes nodes by the document's words, level by level from the leaf up.
type treeModel struct{ nodes []impl.Node }

func (m *treeModel) stand(n impl.Node) int {
	m.nodes = append(m.nodes, cloneNode(n))
	return len(m.nodes) - 1
}

// way are the nodes from the root to the leaf of a key, and which kid leads on.
func (m *treeModel) way(root int, key string) (nodes, kids []int) {
	for at := root; ; {
		nodes = append(nodes, at)
		n := m.nodes[at]
		if n.Leaf {
			return nodes, kids
		}
		kid := 0
		for kid < len(n.Keys) && n.Keys[kid] <= key {
			kid++
		}
		kids = append(kids, kid)
		at = n.Kids[kid]
	}
}

func (m *treeModel) put(root int, key, value string) int {
	if root == -1 {
		return m.stand(impl.Node{Leaf: true, Keys: []string{key}, Vals: []string{value}})
	}
	way, kids := m.way(root, key)
	n := cloneNode(m.nodes[way[len(way)-1]])
	if i := slices.Index(n.Keys, key); i >= 0 {
		n.Vals[i] = value
	} else {
		n.Keys = append(n.Keys, key)
		slices.Sort(n.Keys)
		n.Vals = slices.Insert(n.Vals, slices.Index(n.Keys, key), value)
	}
	made, up := m.split(n)
	for level := len(kids) - 1; level >= 0; level-- {
		n = cloneNode(m.nodes[way[level]])
		n.Kids = slices.Replace(n.Kids, kids[level], kids[level]+1, made...)
		n.Keys = slices.Insert(n.Keys, kids[level], up...)
		made, up = m.split(n)
	}
	if len(made) == 2 {
		return m.stand(impl.Node{Keys: up, Kids: made})
	}
	return made[0]
}

// split has the document's numbers: two and three keys of a leaf, two and two and one up of another node.
func (m *treeModel) split(n impl.Node) ([]int, []string) {
	switch {
	case len(n.Keys) < 5:
		return []int{m.stand(n)}, nil
	case n.Leaf:
		left := m.stand(impl.Node{Leaf: true, Keys: n.Keys[:2], Vals: n.Vals[:2]})
		return []int{left, m.stand(impl.Node{Leaf: true, Keys: n.Keys[2:], Vals: n.Vals[2:]})}, n.Keys[2:3]
	}
	left := m.stand(impl.Node{Keys: n.Keys[:2], Kids: n.Kids[:3]})
	return []int{left, m.stand(impl.Node{Keys: n.Keys[3:], Kids: n.Kids[3:]})}, n.Keys[2:3]
}

func (m *treeModel) drop(root int, key string) int {
	way, kids := m.way(root, key)
	n := cloneNode(m.nodes[way[len(way)-1]])
	i := slices.Index(n.Keys, key)
	n.Keys, n.Vals = slices.Delete(n.Keys, i, i+1), slices.Delete(n.Vals, i, i+1)
	for level := len(kids) - 1; level >= 0; level-- {
		made := m.stand(n)
		n = cloneNode(m.nodes[way[level]])
		n.Kids[kids[level]] = made
		if len(m.nodes[made].Keys) < 2 {
			m.join(&n, kids[level])
		}
	}
	if len(n.Keys) > 0 {
		return m.stand(n)
	}
	if n.Leaf {
		return -1
	}
	return n.Kids[0]
}

// join makes a kid one with its neighbour, or shares their keys out.
func (m *treeModel) join(n *impl.Node, kid int) {
	if kid == 0 {
		kid = 1
	}
	left, right := cloneNode(m.nodes[n.Kids[kid-1]]), cloneNode(m.nodes[n.Kids[kid]])
	all := left
	if !left.Leaf {
		all.Keys = append(all.Keys, n.Keys[kid-1])
	}
	all.Keys, all.Vals, all.Kids = append(all.Keys, right.Keys...), append(all.Vals, right.Vals...), append(all.Kids, right.Kids...)
	if len(all.Keys) <= 4 {
		n.Kids = slices.Replace(n.Kids, kid-1, kid+1, m.stand(all))
		n.Keys = slices.Delete(n.Keys, kid-1, kid)
		return
	}
	half := len(all.Keys) / 2
	n.Keys[kid-1] = all.Keys[half]
	if all.Leaf {
		n.Kids[kid-1] = m.stand(impl.Node{Leaf: true, Keys: all.Keys[:half], Vals: all.Vals[:half]})
		n.Kids[kid] = m.stand(impl.Node{Leaf: true, Keys: all.Keys[half:], Vals: all.Vals[half:]})
		return
	}
	n.Kids[kid-1] = m.stand(impl.Node{Keys: all.Keys[:half], Kids: all.Kids[:half+1]})
	n.Kids[kid] = m.stand(impl.Node{Keys: all.Keys[half+1:], Kids: all.Kids[half+1:]})
}

// Forests are those of the model, node by node, and full just where it has too many.
func TestChangesAgainstModel(t *testing.T) {
	for _, size := range []int{3, 9, 40, 120, 260} {
		d := &dice{state: uint64(size) + 1}
		keys := keysOf(size)
		f, root := impl.Forest{}, -1
		for i := range 900 {
			key, value := keys[d.below(size)], fmt.Sprint(i)
			m := &treeModel{nodes: cloneForest(f).Nodes}
			var next impl.Forest
			var top, want, got int
			if _, missing := impl.TreeFind(f, root, key); missing != impl.OK || d.below(3) == 0 {
				next, top, got = impl.TreePut(f, root, key, value)
				want = m.put(root, key, value)
			} else {
				next, top, got = impl.TreeDrop(f, root, key)
				want = m.drop(root, key)
			}
			if len(m.nodes) > impl.MaxNodes {
				code(t, fmt.Sprint("act ", i), got, impl.ErrFull)
				small, roots, _ := impl.Compact(f, []int{root})
				f, root = small, roots[0]
				continue
			}
			if got != impl.OK || top != want || !sameForest(next, impl.Forest{Nodes: m.nodes}) {
				t.Fatalf("%d keys, act %d of %s on %s: %s, root %d, code %d; want %s, root %d", size, i, key, showTree(f, root),
					showNodes(next, min(len(f.Nodes), len(next.Nodes))), top, got, showNodes(impl.Forest{Nodes: m.nodes}, len(f.Nodes)), want)
			}
			f, root = next, top
		}
	}
}

// treeByWords asks each sentence of the chapter by itself, of a right forest.
func treeByWords(f impl.Forest, root int) bool {
	if root < -1 || root >= len(f.Nodes) {
		return false
	}
	keys := make([][]string, len(f.Nodes)) // all that stand at a node and below it
	deep := make([][]int, len(f.Nodes))    // how far its leaves are
	between := make([]bool, len(f.Nodes))
	for at, n := range f.Nodes {
		keys[at], between[at] = slices.Clone(n.Keys), true
		if n.Leaf {
			deep[at] = []int{1}
		}
		for i, kid := range n.Kids {
			for _, key := range keys[kid] {
				if i > 0 && key < n.Keys[i-1] || i < len(n.Keys) && key >= n.Keys[i] {
					between[at] = false
				}
			}
			keys[at] = append(keys[at], keys[kid]...)
			for _, levels := range deep[kid] {
				deep[at] = append(deep[at], levels+1)
			}
		}
		slices.Sort(keys[at])
		slices.Sort(deep[at])
		keys[at], deep[at] = slices.Compact(keys[at]), slices.Compact(deep[at])
	}
	for _, at := range reachedByWords(f, []int{root}) {
		if !between[at] || len(deep[at]) != 1 || at != root && len(f.Nodes[at].Keys) < 2 {
			return false
		}
	}
	return true
}

func TestTreesByWords(t *testing.T) {
	d := &dice{state: 21}
	seen := map[bool]int{}
	look := func(f impl.Forest) {
		t.Helper()
		if !impl.ForestOK(f) {
			return
		}
		for root := -2; root <= len(f.Nodes); root++ {
			want := treeByWords(f, root)
			seen[want]++
			if impl.TreeOK(f, root) != want {
				t.Fatalf("%v, root %d is %t", f, root, !want)
			}
		}
	}
	for i := range 600 {
		look(rolledForest(d, 1+i%9))
		f, _ := grown(keysOf(1 + i%45)...)
		for range d.below(3) {
			bend(d, f)
		}
		look(f)
	}
	for _, s := range shapes {
		f, _ := layTree(s.text)
		look(f)
	}
	if seen[true] < 500 || seen[false] < 500 {
		t.Error("there are too few of", seen)
	}
}

// bend changes one thing of a forest; it may be right still.
func bend(d *dice, f impl.Forest) {
	n := &f.Nodes[d.below(len(f.Nodes))]
	other := f.Nodes[d.below(len(f.Nodes))]
	i := d.below(len(n.Keys))
	switch d.below(4) {
	case 0:
		n.Keys[i] = other.Keys[d.below(len(other.Keys))]
	case 1:
		n.Keys[i] += "0"
	case 2:
		if !n.Leaf {
			n.Kids[i] = d.below(len(f.Nodes))
		}
	case 3:
		n.Keys = n.Keys[:len(n.Keys)-1]
		if n.Leaf {
			n.Vals = n.Vals[:len(n.Vals)-1]
		} else {
			n.Kids = n.Kids[:len(n.Kids)-1]
		}
		if len(n.Keys) == 0 {
			*n = leaf("a")
		}
	}
}
