package tests

import (
	"fmt"
	"math/rand"
	"strings"
	"testing"

	"loop.example/g00037/impl"
)

func leaf(name string, text string) impl.Tree {
	return impl.Tree{Name: name, Text: text, Leaf: true}
}

func node(name string, kids ...impl.Tree) impl.Tree {
	return impl.Tree{Name: name, Kids: kids}
}

// wide has n trees, itself too.
func wide(n int) impl.Tree {
	t := node("n")
	for i := 1; i < n; i++ {
		t.Kids = append(t.Kids, leaf("k", ""))
	}
	return t
}

// deep is n deep.
func deep(n int) impl.Tree {
	t := leaf("a", "")
	for i := 1; i < n; i++ {
		t = node("n", t)
	}
	return t
}

// endless leads back into itself.
func endless(width int) impl.Tree {
	kids := make([]impl.Tree, width)
	for i := range kids {
		kids[i] = impl.Tree{Name: "n", Kids: kids}
	}
	return kids[0]
}

// sameTree takes no list and nil for the same.
func sameTree(a impl.Tree, b impl.Tree) bool {
	if a.Name != b.Name || a.Text != b.Text || a.Leaf != b.Leaf || len(a.Kids) != len(b.Kids) {
		return false
	}
	for i := range a.Kids {
		if !sameTree(a.Kids[i], b.Kids[i]) {
			return false
		}
	}
	return true
}

func copyTree(t impl.Tree) impl.Tree {
	var kids []impl.Tree
	for _, kid := range t.Kids {
		kids = append(kids, copyTree(kid))
	}
	t.Kids = kids
	return t
}

// spoil writes over all of a tree's lists, and over the room behind them.
func spoil(t impl.Tree) {
	for i := range t.Kids {
		spoil(t.Kids[i])
	}
	all := t.Kids[:cap(t.Kids)]
	for i := range all {
		all[i] = leaf("spoilt", "spoilt")
	}
}

// roomy is t with a spare tree behind each list of Kids.
func roomy(t impl.Tree) impl.Tree {
	kids := make([]impl.Tree, 0, len(t.Kids)+1)
	for _, kid := range t.Kids {
		kids = append(kids, roomy(kid))
	}
	kids[:len(kids)+1][len(kids)] = leaf("spare", "spare")
	t.Kids = kids
	return t
}

func sparesKept(t impl.Tree) bool {
	if !sameTree(t.Kids[:len(t.Kids)+1][len(t.Kids)], leaf("spare", "spare")) {
		return false
	}
	for _, kid := range t.Kids {
		if !sparesKept(kid) {
			return false
		}
	}
	return true
}

// written is a tree's text as the document tells it, without any limit.
func written(t impl.Tree) string {
	if !t.Leaf {
		s := "(" + t.Name
		for _, kid := range t.Kids {
			s += " " + written(kid)
		}
		return s + ")"
	}
	var s strings.Builder
	s.WriteString(t.Name + "\"")
	for _, b := range []byte(t.Text) {
		switch {
		case b == '"':
			s.WriteString("\\\"")
		case b == '\\':
			s.WriteString("\\\\")
		case b >= 32 && b <= 126:
			s.WriteByte(b)
		default:
			fmt.Fprintf(&s, "\\%03d", b)
		}
	}
	return s.String() + "\""
}

// pathsOf is the paths of all trees in t.
func pathsOf(t impl.Tree) [][]int {
	paths := [][]int{{}}
	for i, kid := range t.Kids {
		for _, path := range pathsOf(kid) {
			paths = append(paths, append([]int{i}, path...))
		}
	}
	return paths
}

// under is the tree at a path that leads somewhere.
func under(t impl.Tree, path []int) impl.Tree {
	for _, i := range path {
		t = t.Kids[i]
	}
	return t
}

func begins(path []int, with []int) bool {
	if len(path) < len(with) {
		return false
	}
	for i := range with {
		if path[i] != with[i] {
			return false
		}
	}
	return true
}

const letters = "abcxyzABCXYZ"
const nameBytes = letters + "0189_"

func someName(r *rand.Rand) string {
	name := []byte{letters[r.Intn(len(letters))]}
	for n := r.Intn(impl.MaxName); n > 0; n-- {
		name = append(name, nameBytes[r.Intn(len(nameBytes))])
	}
	return string(name)
}

func someTree(r *rand.Rand, depth int) impl.Tree {
	if depth == 1 || r.Intn(3) == 0 {
		text := make([]byte, r.Intn(6))
		for i := range text {
			text[i] = byte(r.Intn(256))
		}
		return leaf(someName(r), string(text))
	}
	t := node(someName(r))
	for n := r.Intn(4); n > 0; n-- {
		t.Kids = append(t.Kids, someTree(r, depth-1))
	}
	return t
}

// someTrees are right, and the same in each run.
func someTrees() []impl.Tree {
	r := rand.New(rand.NewSource(1))
	trees := []impl.Tree{leaf("a", ""), node("a"), wide(impl.MaxNodes), deep(impl.MaxDepth), leaf("All", everyByte(0, 128)), leaf("All", everyByte(128, 256)), leaf("a", strings.Repeat("x", impl.MaxLeaf))}
	for i := 0; i < 150; i++ {
		trees = append(trees, someTree(r, 1+i%6))
	}
	return trees
}

func everyByte(from int, to int) string {
	var s []byte
	for b := from; b < to; b++ {
		s = append(s, byte(b))
	}
	return string(s)
}

// wrongTrees are not right, each for one reason.
func wrongTrees() map[string]impl.Tree {
	return map[string]impl.Tree{
		"nothing":                {},
		"no name":                leaf("", "a"),
		"a digit first":          leaf("9a", ""),
		"a _ first":              node("_a"),
		"a byte of no name":      node("a-b"),
		"a letter of no name":    node("a\xc3\xa9"),
		"a blank in a name":      leaf("a b", ""),
		"a long name of a leaf":  leaf(strings.Repeat("a", impl.MaxName+1), ""),
		"a long name of a node":  node(strings.Repeat("a", impl.MaxName+1)),
		"a long text":            leaf("a", strings.Repeat("x", impl.MaxLeaf+1)),
		"a node with a text":     {Name: "a", Text: "x"},
		"a text above kids":      {Name: "a", Text: "x", Kids: []impl.Tree{leaf("b", "")}},
		"a leaf with kids":       {Name: "a", Leaf: true, Kids: []impl.Tree{leaf("b", "")}},
		"a kid":                  node("a", leaf("b", ""), leaf("", "")),
		"a kid of a kid":         node("a", node("b", node("c", node("1")))),
		"too many":               wide(impl.MaxNodes + 1),
		"too many, in two kids":  node("a", wide(impl.MaxNodes/2), wide(impl.MaxNodes/2)),
		"too deep":               deep(impl.MaxDepth + 1),
		"too deep, in a kid":     node("a", leaf("b", ""), deep(impl.MaxDepth)),
		"very deep":              deep(100000),
		"endless":                endless(1),
		"endless in two ways":    endless(2),
		"endless in a thousand":  endless(1000),
		"too deep and no name":   node("", deep(impl.MaxDepth+1)),
		"no name, much too many": node("", wide(100000)),
	}
}

func mustShow(t *testing.T, x impl.Tree) string {
	t.Helper()
	s, code := impl.TreeShow(x)
	if code != impl.OK {
		t.Fatalf("TreeShow answers %d", code)
	}
	return s
}
