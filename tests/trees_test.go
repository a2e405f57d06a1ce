package tests

import (
	"strings"
	"testing"

	"loop.example/g00037/impl"
)

func TestRightTrees(t *testing.T) {
	right := someTrees()
	right = append(right, leaf(strings.Repeat("Z", impl.MaxName), ""), node("z"+strings.Repeat("_9", 11)+"A"),
		node("a", wide(impl.MaxNodes/2), wide(impl.MaxNodes/2-1)), node("a", deep(impl.MaxDepth-1), leaf("b", "")),
		impl.Tree{Name: "a", Leaf: true, Kids: []impl.Tree{}}, impl.Tree{Name: "a", Kids: []impl.Tree{}})
	for i, x := range right {
		if !impl.TreeOK(x) {
			t.Errorf("tree %d is right", i)
		}
	}
	for why, x := range wrongTrees() {
		if impl.TreeOK(x) {
			t.Errorf("%s: not right", why)
		}
	}
}

func TestNamesOfTrees(t *testing.T) {
	for b := 0; b < 256; b++ {
		letter := b >= 'a' && b <= 'z' || b >= 'A' && b <= 'Z'
		within := letter || b >= '0' && b <= '9' || b == '_'
		if impl.TreeOK(node(string([]byte{byte(b)}))) != letter {
			t.Errorf("byte %d, first", b)
		}
		if impl.TreeOK(leaf(string([]byte{'a', byte(b)}), "")) != within {
			t.Errorf("byte %d, second", b)
		}
		if _, code, _ := impl.TreeRead(string([]byte{'(', byte(b), ')'})); (code == impl.OK) != letter {
			t.Errorf("byte %d, first, read", b)
		}
		if _, code, _ := impl.TreeRead(string([]byte{'a', byte(b), '"', '"'})); (code == impl.OK) != within {
			t.Errorf("byte %d, second, read", b)
		}
	}
}

func TestTreeSize(t *testing.T) {
	for _, x := range []struct {
		t     impl.Tree
		n, up int
	}{
		{leaf("a", "xyz"), 1, 1},
		{node("a"), 1, 1},
		{node("a", leaf("b", ""), node("c", node("d"), leaf("e", "")), leaf("f", "")), 6, 3},
		{node("a", node("b", node("c")), leaf("d", "")), 4, 3},
		{wide(impl.MaxNodes), impl.MaxNodes, 2},
		{deep(impl.MaxDepth), impl.MaxDepth, impl.MaxDepth},
	} {
		if n, up, code := impl.TreeSize(x.t); n != x.n || up != x.up || code != impl.OK {
			t.Errorf("%s: %d %d %d", written(x.t), n, up, code)
		}
	}
}

func TestWrongTreesAreBad(t *testing.T) {
	for why, x := range wrongTrees() {
		if n, up, code := impl.TreeSize(x); n != 0 || up != 0 || code != impl.ErrBad {
			t.Errorf("%s: TreeSize: %d %d %d", why, n, up, code)
		}
		if s, code := impl.TreeShow(x); s != "" || code != impl.ErrBad {
			t.Errorf("%s: TreeShow: %q %d", why, s, code)
		}
		if s, code := impl.TreeYield(x); s != "" || code != impl.ErrBad {
			t.Errorf("%s: TreeYield: %q %d", why, s, code)
		}
		if h, code := impl.TreeHash(x); h != 0 || code != impl.ErrBad {
			t.Errorf("%s: TreeHash: %d %d", why, h, code)
		}
		// Ahead of a path that leads nowhere, and of what would be too large.
		for _, path := range [][]int{nil, {0}, {-1}, {7, 7}} {
			if u, code := impl.TreeAt(x, path); !sameTree(u, impl.Tree{}) || code != impl.ErrBad {
				t.Errorf("%s: TreeAt %v: %d", why, path, code)
			}
			if u, code := impl.TreePut(x, path, leaf("a", "")); !sameTree(u, impl.Tree{}) || code != impl.ErrBad {
				t.Errorf("%s: TreePut %v in it: %d", why, path, code)
			}
			if u, code := impl.TreePut(wide(impl.MaxNodes), path, x); !sameTree(u, impl.Tree{}) || code != impl.ErrBad {
				t.Errorf("%s: TreePut %v of it: %d", why, path, code)
			}
		}
	}
}

func TestTreeShow(t *testing.T) {
	for _, x := range someTrees() {
		if s := mustShow(t, x); s != written(x) {
			t.Errorf("%q is %q", s, written(x))
		}
	}
	if s := mustShow(t, node("a", leaf("b", " \x00\x1f~\x7f\xff\"\\"))); s != `(a b" \000\031~\127\255\"\\")` {
		t.Error(s)
	}
}

// lengthy is a tree of which the text has n bytes (above 5000).
func lengthy(n int) impl.Tree {
	t := node("a")
	for n -= len("(a)"); n > 0; {
		name, text := "b", min(n-len(" b\"\""), 60)
		if rest := n - text - len(" b\"\""); rest > 0 && rest < len(" b\"\"") {
			text -= len(" b\"\"") - rest
		}
		t.Kids = append(t.Kids, leaf(name, strings.Repeat("x", text)))
		n -= text + len(" b\"\"")
	}
	return t
}

func TestLongestText(t *testing.T) {
	for n := impl.MaxShow - 80; n <= impl.MaxShow; n++ {
		if s := mustShow(t, lengthy(n)); len(s) != n {
			t.Fatalf("the test's own tree: %d bytes", len(s))
		}
	}
	most := lengthy(impl.MaxShow)
	s := mustShow(t, most)
	if back, code, at := impl.TreeRead(s); !sameTree(back, most) || code != impl.OK || at != 0 {
		t.Errorf("read back: %d %d", code, at)
	}
	for _, more := range []impl.Tree{lengthy(impl.MaxShow + 1), lengthy(impl.MaxShow * 2)} {
		if s, code := impl.TreeShow(more); s != "" || code != impl.ErrFull {
			t.Errorf("more than that: %d bytes, %d", len(s), code)
		}
		if h, code := impl.TreeHash(more); h != hashOf(written(more)) || code != impl.OK {
			t.Errorf("its hash: %d %d", h, code)
		}
	}
}

func hashOf(s string) int {
	h := 5381
	for _, b := range []byte(s) {
		h = (h*33 + int(b)) % (1 << 32)
	}
	return h
}

func TestTreeHash(t *testing.T) {
	for _, x := range someTrees() {
		if h, code := impl.TreeHash(x); h != hashOf(written(x)) || code != impl.OK {
			t.Errorf("%s: %d %d", written(x), h, code)
		}
	}
	if h, code := impl.TreeHash(node("a")); h != 193423799 || code != impl.OK { // ((5381 * 33 + 40) * 33 + 97) * 33 + 41
		t.Error(h, code)
	}
}

func yieldOf(x impl.Tree) string {
	s := x.Text
	for _, kid := range x.Kids {
		s += yieldOf(kid)
	}
	return s
}

func TestTreeYield(t *testing.T) {
	for _, x := range someTrees() {
		if s, code := impl.TreeYield(x); s != yieldOf(x) || code != impl.OK {
			t.Errorf("%s: %q %d", written(x), s, code)
		}
	}
	most := node("n")
	for i := 1; i < impl.MaxNodes; i++ {
		most.Kids = append(most.Kids, leaf("a", strings.Repeat("\xff", impl.MaxLeaf)))
	}
	if s, code := impl.TreeYield(most); len(s) != impl.MaxLeaf*(impl.MaxNodes-1) || code != impl.OK {
		t.Error(len(s), code)
	}
}

// somePaths leaves most out of those of a large tree.
func somePaths(x impl.Tree) [][]int {
	paths := pathsOf(x)
	if n := len(paths); n > 100 {
		return append(paths[:5], paths[n-5:]...)
	}
	return paths
}

func TestTreeAt(t *testing.T) {
	for _, x := range someTrees() {
		for _, path := range somePaths(x) {
			there := under(x, path)
			if u, code := impl.TreeAt(x, path); !sameTree(u, there) || code != impl.OK {
				t.Fatalf("%s at %v: %d", written(x), path, code)
			}
			for _, away := range []int{-1, len(there.Kids), len(there.Kids) + 1, 1 << 62, -1 << 63} {
				nowhere(t, x, append(append([]int{}, path...), away))
				nowhere(t, x, append(append([]int{}, path...), away, 0))
			}
		}
	}
	nowhere(t, leaf("a", ""), make([]int, 100000))
	nowhere(t, deep(impl.MaxDepth), make([]int, 100000))
}

func nowhere(t *testing.T, x impl.Tree, path []int) {
	t.Helper()
	if u, code := impl.TreeAt(x, path); !sameTree(u, impl.Tree{}) || code != impl.ErrPlace {
		t.Fatalf("TreeAt %v: %d", path, code)
	}
	// Ahead of what would be too large.
	if u, code := impl.TreePut(x, path, deep(impl.MaxDepth)); !sameTree(u, impl.Tree{}) || code != impl.ErrPlace {
		t.Fatalf("TreePut %v: %d", path, code)
	}
}

// Promise 1: what is put at a place is found there, and each other place is as it was.
func TestWhatIsPutIsThere(t *testing.T) {
	puts := []impl.Tree{leaf("Put", "\"\x00"), node("Put"), node("Put", leaf("b", "x"), node("c", leaf("d", "")))}
	for i, x := range someTrees() {
		for _, path := range somePaths(x) {
			u := puts[i%len(puts)]
			y, code := impl.TreePut(x, path, u)
			if code != impl.OK {
				if code != impl.ErrFull || !sameTree(y, impl.Tree{}) {
					t.Errorf("put at %v: %d", path, code)
				}
				continue
			}
			if got, code := impl.TreeAt(y, path); !sameTree(got, u) || code != impl.OK {
				t.Errorf("found at %v: %d", path, code)
			}
			othersStay(t, x, y, path)
		}
	}
}

func othersStay(t *testing.T, x impl.Tree, y impl.Tree, put []int) {
	t.Helper()
	for _, path := range pathsOf(x) {
		if begins(path, put) {
			continue
		}
		was := under(x, path)
		is, code := impl.TreeAt(y, path)
		if code != impl.OK || is.Name != was.Name || is.Text != was.Text || is.Leaf != was.Leaf || len(is.Kids) != len(was.Kids) {
			t.Errorf("put at %v: %v is another", put, path)
		}
		if !begins(put, path) && !sameTree(is, was) {
			t.Errorf("put at %v: %v has others", put, path)
		}
	}
}

func TestPutUpToTheLimits(t *testing.T) {
	for _, x := range []struct {
		t    impl.Tree
		path []int
		u    impl.Tree
		code int
	}{
		{node("a", leaf("b", "")), []int{0}, deep(impl.MaxDepth - 1), impl.OK},
		{node("a", leaf("b", "")), []int{0}, deep(impl.MaxDepth), impl.ErrFull},
		{node("a", leaf("b", "")), []int{0}, wide(impl.MaxNodes - 1), impl.OK},
		{node("a", leaf("b", "")), []int{0}, wide(impl.MaxNodes), impl.ErrFull},
		{wide(impl.MaxNodes), []int{impl.MaxNodes - 2}, node("a"), impl.OK},
		{wide(impl.MaxNodes), []int{impl.MaxNodes - 2}, node("a", node("b")), impl.ErrFull},
		{deep(impl.MaxDepth), make([]int, impl.MaxDepth-1), node("a"), impl.OK},
		{deep(impl.MaxDepth), make([]int, impl.MaxDepth-1), node("a", node("b")), impl.ErrFull},
		{wide(impl.MaxNodes), nil, deep(impl.MaxDepth), impl.OK},
		{deep(impl.MaxDepth), []int{}, wide(impl.MaxNodes), impl.OK},
		{node("a", wide(impl.MaxNodes-1)), []int{0}, wide(impl.MaxNodes - 1), impl.OK},
	} {
		y, code := impl.TreePut(x.t, x.path, x.u)
		if code != x.code {
			t.Errorf("%d, not %d", code, x.code)
		}
		if code == impl.OK && !sameTree(under(y, x.path), x.u) || code != impl.OK && !sameTree(y, impl.Tree{}) {
			t.Errorf("another tree, with %d", code)
		}
	}
}

func TestTreesAreNewMemory(t *testing.T) {
	build := func() impl.Tree {
		return node("a", node("b", leaf("c", "1"), node("d", leaf("e", "2"))), node("f"), node("b", leaf("c", "1")))
	}
	given, u, path := roomy(build()), roomy(node("u", node("v", leaf("w", "")))), []int{0, 1}
	at, _ := impl.TreeAt(given, nil)
	put, _ := impl.TreePut(given, path, u)
	whole, _ := impl.TreePut(given, nil, u)
	for _, x := range []impl.Tree{at, put, whole} {
		spoil(x)
	}
	impl.TreeShow(given)
	impl.TreeYield(given)
	impl.TreeHash(given)
	impl.TreeSize(given)
	if !sameTree(given, build()) || !sameTree(u, node("u", node("v", leaf("w", "")))) || path[0] != 0 || path[1] != 1 {
		t.Error("an argument is written into")
	}
	if !sparesKept(given) || !sparesKept(u) {
		t.Error("the room behind an argument is written into")
	}
}

// Two places of one answer have lists of their own, also where the argument had one for both.
func TestListsOfAnAnswerAreApart(t *testing.T) {
	one := []impl.Tree{leaf("c", "1")}
	given := node("a", impl.Tree{Name: "b", Kids: one}, impl.Tree{Name: "b", Kids: one})
	at, _ := impl.TreeAt(given, []int{})
	put, _ := impl.TreePut(given, []int{0}, given.Kids[1])
	read, _, _ := impl.TreeRead(mustShow(t, given))
	for i, x := range []impl.Tree{at, put, read} {
		was := copyTree(x)
		spoil(x.Kids[0])
		if !sameTree(x.Kids[1], was.Kids[1]) || !sameTree(given.Kids[0], was.Kids[1]) {
			t.Error("lists are shared in answer", i)
		}
	}
}
