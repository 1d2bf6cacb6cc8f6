package tests

import (
	"fmt"
	"slices"
	"testing"

	"loop.example/g00208/impl"
)

// forthFrom are the entries from a cursor on to the end.
func forthFrom(t *testing.T, f impl.Forest, root int, c impl.Cursor) []impl.Entry {
	t.Helper()
	var list []impl.Entry
	for len(c.Path) > 0 && len(list) <= impl.MaxNodes*impl.MaxKeys {
		e, got := impl.CursorEntry(f, root, c)
		code(t, "CursorEntry", got, impl.OK)
		list = append(list, e)
		c, got = impl.CursorNext(f, root, c)
		code(t, "CursorNext", got, impl.OK)
	}
	return list
}

// backFrom are the entries from a cursor back to the first one, rising.
func backFrom(t *testing.T, f impl.Forest, root int, c impl.Cursor) []impl.Entry {
	t.Helper()
	var list []impl.Entry
	for len(c.Path) > 0 && len(list) <= impl.MaxNodes*impl.MaxKeys {
		e, got := impl.CursorEntry(f, root, c)
		code(t, "CursorEntry", got, impl.OK)
		list = append(list, e)
		c, got = impl.CursorBack(f, root, c)
		code(t, "CursorBack", got, impl.OK)
	}
	slices.Reverse(list)
	return list
}

// soughtKeys are all keys of some entries, such as lie between them, and such as lie beyond.
func soughtKeys(list []impl.Entry) []string {
	keys := []string{"", "\x00", "\xff", longKey}
	for _, e := range list {
		last := len(e.Key) - 1
		keys = append(keys, e.Key, e.Key+"\x00", e.Key[:last]+string([]byte{e.Key[last] - 1, 0xff}))
	}
	return keys
}

// checkFrom goes forth from a key to the end, and back from there to the first entry.
func checkFrom(t *testing.T, f impl.Forest, root int, key string, has []impl.Entry) {
	t.Helper()
	c, got := impl.Seek(f, root, key)
	code(t, "Seek", got, impl.OK)
	cut := 0
	for cut < len(has) && has[cut].Key < key {
		cut++
	}
	if list := forthFrom(t, f, root, c); !slices.Equal(list, has[cut:]) {
		t.Fatalf("forth from %q: %v, want %v", key, list, has[cut:])
	}
	if cut == len(has) {
		if len(c.Path) != 0 {
			t.Fatalf("%q stands at %v, want the end", key, c)
		}
		return
	}
	if list := backFrom(t, f, root, c); !slices.Equal(list, has[:cut+1]) {
		t.Fatalf("back from %q: %v, want %v", key, list, has[:cut+1])
	}
}

func TestCursorsFindAllEntries(t *testing.T) {
	seen := map[int]int{}
	for _, size := range []int{0, 1, 2, 3, 4, 5, 6, 9, 12, 16, 17, 18, 25, 40, 62} {
		f, root := grown(keysOf(size)...)
		has := map[string]string{}
		for _, key := range keysOf(size) {
			has[key] = valueOf(key)
		}
		levels, _ := impl.TreeDepth(f, root)
		seen[levels]++
		for _, key := range soughtKeys(entriesOf(has)) {
			checkFrom(t, f, root, key, entriesOf(has))
		}
	}
	for levels := range 4 {
		if seen[levels] == 0 {
			t.Error("no tree of levels", levels, seen)
		}
	}
}

// Each step to an entry leads on as well as the first one, and back again to where it was.
func TestStepsForthAndBackAgain(t *testing.T) {
	f, root := grown(keysOf(200)...)
	levels, _ := impl.TreeDepth(f, root)
	if levels < 4 {
		t.Fatal("only levels", levels)
	}
	paths := pathsOf(f, root)
	for i, path := range paths {
		next, c1 := impl.CursorNext(f, root, cursorOf(path))
		back, c2 := impl.CursorBack(f, root, cursorOf(path))
		code(t, "CursorNext", c1, impl.OK)
		code(t, "CursorBack", c2, impl.OK)
		if i+1 < len(paths) && !slices.Equal(next.Path, paths[i+1]) || i+1 == len(paths) && len(next.Path) != 0 {
			t.Fatalf("behind %v stands %v", path, next)
		}
		if i > 0 && !slices.Equal(back.Path, paths[i-1]) || i == 0 && len(back.Path) != 0 {
			t.Fatalf("ahead of %v stands %v", path, back)
		}
		e, got := impl.CursorEntry(f, root, cursorOf(path))
		c, c3 := impl.Seek(f, root, e.Key)
		if got+c3 != impl.OK || !slices.Equal(c.Path, path) {
			t.Fatalf("%q is found at %v, want %v", e.Key, c, path)
		}
	}
}

// Trees that are changed to and fro, with roots of before: each is gone through by itself.
func TestCursorsOfChangedTrees(t *testing.T) {
	d := &dice{state: 17}
	keys := keysOf(30)
	o := &orchard{now: kept{root: -1, has: map[string]string{}}}
	for i := range 240 {
		o.change(t, keys[d.below(len(keys))], fmt.Sprint(i), d.below(10) < []int{2, 5, 8}[i/80])
		k := append(o.before, o.now)[d.below(len(o.before)+1)]
		has := entriesOf(k.has)
		sought := soughtKeys(has)
		checkFrom(t, o.f, k.root, "", has)
		checkFrom(t, o.f, k.root, sought[d.below(len(sought))], has)
		c, _ := impl.Seek(o.f, k.root, "\xff")
		if len(c.Path) != 0 {
			t.Fatal("beyond the last key stands", c)
		}
	}
}

// Full nodes and thin ones, at the ends of which the way leads up one level and more.
func TestCursorsPastTheEndsOfNodes(t *testing.T) {
	for _, text := range []string{
		"abcd", "(ab c cd)", "(abcd e efgh i ijkl m mnop q qrst)", "((ab c cd e ef) g (gh i ij k kl))",
		"((ab c cd e ef g gh i ij) k (kl m mn o op) q (qr s st u uv w wx y yz))", "(ab d fg m no)", "((ab d de f gh) j (kl n op q qr))",
	} {
		f, root := layTree(text)
		has, got := impl.TreeList(f, root, "", "")
		if code(t, text, got, impl.OK); len(has) == 0 {
			t.Fatal(text, "has nothing")
		}
		for _, key := range soughtKeys(has) {
			checkFrom(t, f, root, key, has)
		}
	}
}
