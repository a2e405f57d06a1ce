package tests

import (
	"math"
	"math/rand"
	"slices"
	"strings"
	"testing"

	"loop.example/g00037/impl"
)

func TestSharedTreesComeBack(t *testing.T) {
	r := rand.New(rand.NewSource(93))
	shared := 0
	for range 2000 {
		trees := alikeTrees(r)
		d := checkShare(t, trees...)
		count := 0
		for _, x := range trees {
			count += len(pathsOf(x))
		}
		shared += oneFor(len(d.Nodes)+3 < count)
	}
	if shared < 300 {
		t.Errorf("only %d lists of trees had many that are alike", shared)
	}
	for _, x := range someTrees() {
		checkShare(t, x)
		checkShare(t, x, x)
	}
}

func TestNumbersOfSharedTrees(t *testing.T) {
	a, b := leaf("a", "1"), leaf("b", "")
	f := node("F", a)
	for _, x := range []struct {
		trees []impl.Tree
		want  string
	}{
		{nil, "[]"},
		{[]impl.Tree{a}, `"a" "1" true [];[0]`},
		{[]impl.Tree{a, a, a}, `"a" "1" true [];[0 0 0]`},
		{[]impl.Tree{b, a}, `"b" "" true [];"a" "1" true [];[0 1]`},
		{[]impl.Tree{node("E", b, f, a, f)}, `"b" "" true [];"a" "1" true [];"F" "" false [1];"E" "" false [0 2 1 2];[3]`},
		// One that stands in the next, and one that stood in the one ahead.
		{[]impl.Tree{f, node("E", b, f)}, `"a" "1" true [];"F" "" false [0];"b" "" true [];"E" "" false [2 1];[1 3]`},
		{[]impl.Tree{node("E", b, f), f, b}, `"b" "" true [];"a" "1" true [];"F" "" false [1];"E" "" false [0 2];[3 2 0]`},
		{[]impl.Tree{node("a", node("a", node("a")))}, `"a" "" false [];"a" "" false [0];"a" "" false [1];[2]`},
	} {
		if d := checkShare(t, x.trees...); dagText(d) != x.want {
			t.Errorf("%s should be %s", dagText(d), x.want)
		}
	}
}

// Each two differ in one thing alone, and are two.
func TestTreesThatAreNotAlike(t *testing.T) {
	a, b := leaf("a", ""), leaf("b", "")
	different := []impl.Tree{
		a, b, leaf("a", "x"), leaf("a", "y"), leaf("A", ""), leaf("aa", ""), leaf("a", "\x00"), leaf("b", "x"), node("a"), node("b"), node("A"),
		node("n"), node("n", a), node("n", b), node("n", a, a), node("n", a, b), node("n", b, a), node("n", a, a, a), node("n", node("n")), node("n", node("n"), node("n")),
	}
	d := checkShare(t, different...)
	if len(d.Nodes) != len(different) || len(different) != impl.MaxTrees {
		t.Errorf("%d nodes of %d trees", len(d.Nodes), len(different))
	}
	for i, x := range different {
		if d := checkShare(t, x, copyTree(x)); d.Roots[0] != d.Roots[1] {
			t.Errorf("tree %d is not alike itself", i)
		}
		for j, y := range different {
			n, code := impl.SharedWith(x, y)
			if want := standing(x, y); n != want || code != impl.OK {
				t.Errorf("trees %d and %d: %d, %d and should be %d", i, j, n, code, want)
			}
			if d := checkShare(t, x, y); (d.Roots[0] == d.Roots[1]) != (i == j) {
				t.Errorf("trees %d and %d: %v", i, j, d.Roots)
			}
		}
	}
	// Brackets at other places.
	checkShare(t, node("n", a, node("n", a), a), node("n", node("n", a, a), a), node("n", a, node("n", a, a)), node("n", node("n", a), node("n", a)), node("n", node("n", a, a, a)))
	// No list and nil are the same.
	if d, code := impl.Share([]impl.Tree{{Name: "a", Kids: []impl.Tree{}}, {Name: "a"}, {Name: "a", Leaf: true, Kids: []impl.Tree{}}, {Name: "a", Leaf: true}}); len(d.Nodes) != 2 || !slices.Equal(d.Roots, []int{0, 0, 1, 1}) || code != impl.OK {
		t.Error(d, code)
	}
}

func TestLimitsOfSharing(t *testing.T) {
	r := rand.New(rand.NewSource(94))
	most := slices.Repeat([]impl.Tree{wide(impl.MaxNodes), deep(impl.MaxDepth)}, impl.MaxTrees/2)
	checkShare(t, most...)
	var all []impl.Tree
	for i := range impl.MaxTrees {
		x := node("n" + string(rune('a'+i)))
		for len(x.Kids) < impl.MaxNodes-1 {
			x.Kids = append(x.Kids, leaf(someName(r), strings.Repeat("x", r.Intn(impl.MaxLeaf+1))))
		}
		all = append(all, x)
	}
	checkShare(t, all...)
	if d := checkShare(t, slices.Repeat([]impl.Tree{leaf("a", "")}, impl.MaxTrees)...); len(d.Nodes) != 1 {
		t.Error(d)
	}
	for _, trees := range [][]impl.Tree{append(most, leaf("a", "")), slices.Repeat([]impl.Tree{leaf("a", "")}, impl.MaxTrees+1), make([]impl.Tree, 100000)} {
		if d, code := impl.Share(trees); dagText(d) != "[]" || code != impl.ErrBad {
			t.Errorf("%d trees: code %d", len(trees), code)
		}
	}
}

func TestSharingWrongTrees(t *testing.T) {
	right := node("E", leaf("a", ""), leaf("b", ""))
	for why, wrong := range wrongTrees() {
		for _, trees := range [][]impl.Tree{{wrong}, {right, wrong}, {wrong, right}, {right, wrong, right}, append(slices.Repeat([]impl.Tree{right}, impl.MaxTrees-1), wrong)} {
			if d, code := impl.Share(trees); dagText(d) != "[]" || code != impl.ErrBad {
				t.Errorf("%s: code %d", why, code)
			}
		}
		for _, two := range [][2]impl.Tree{{wrong, right}, {right, wrong}, {wrong, wrong}} {
			if n, code := impl.SharedWith(two[0], two[1]); n != 0 || code != impl.ErrBad {
				t.Errorf("%s: %d, code %d", why, n, code)
			}
		}
	}
}

// standing counts the trees in b of which the text is that of one in a.
func standing(a impl.Tree, b impl.Tree) int {
	texts := map[string]int{}
	for _, path := range pathsOf(a) {
		texts[written(under(a, path))]++
	}
	count := 0
	for _, path := range pathsOf(b) {
		count += oneFor(texts[written(under(b, path))] > 0)
	}
	return count
}

func TestSharedWith(t *testing.T) {
	r := rand.New(rand.NewSource(95))
	some := 0
	for range 3000 {
		a, b := alikeTree(r, 1+r.Intn(5)), alikeTree(r, 1+r.Intn(5))
		n, code := impl.SharedWith(a, b)
		if want := standing(a, b); n != want || code != impl.OK {
			t.Fatalf("%s and %s: %d, %d and should be %d", written(a), written(b), n, code, want)
		}
		some += oneFor(n > 0 && n < len(pathsOf(b)))
	}
	if some < 300 {
		t.Errorf("only %d trees stood in another in part", some)
	}
	for _, x := range someTrees() {
		if n, code := impl.SharedWith(x, copyTree(x)); n != len(pathsOf(x)) || code != impl.OK {
			t.Errorf("%s with itself: %d, %d", written(x), n, code)
		}
	}
	for _, x := range []struct {
		a, b impl.Tree
		want int
	}{
		{wide(impl.MaxNodes), wide(impl.MaxNodes), impl.MaxNodes}, {wide(2), wide(impl.MaxNodes), impl.MaxNodes - 1}, {wide(impl.MaxNodes), wide(2), 1}, {leaf("k", ""), wide(impl.MaxNodes), impl.MaxNodes - 1}, {leaf("z", ""), wide(impl.MaxNodes), 0},
		{deep(impl.MaxDepth), deep(7), 7}, {deep(7), deep(impl.MaxDepth), 7}, {leaf("a", ""), node("a"), 0}, {node("a"), leaf("a", ""), 0},
	} {
		if n, code := impl.SharedWith(x.a, x.b); n != x.want || code != impl.OK {
			t.Errorf("%d, %d and should be %d", n, code, x.want)
		}
	}
}

// smallTrees is all with one name, no texts, at most two Kids each, and so deep at most.
func smallTrees(depth int) []impl.Tree {
	trees := []impl.Tree{leaf("a", "")}
	var kids []impl.Tree
	if depth > 1 {
		kids = smallTrees(depth - 1)
	}
	for _, list := range lists(kids, 2) {
		trees = append(trees, node("a", list...))
	}
	return trees
}

// There are trees of which Share is it, or none, whatever a small Dag is.
func TestAllSmallDags(t *testing.T) {
	known := map[string][]impl.Tree{}
	for _, trees := range lists(smallTrees(3), 2) {
		known[dagText(sharedBy(trees))] = trees
	}
	numbers := []int{-1, 0, 1, 2}
	nodes := []impl.DagNode{{Name: "a", Leaf: true}}
	for _, kids := range lists(numbers, 2) {
		nodes = append(nodes, impl.DagNode{Name: "a", Kids: kids})
	}
	right := 0
	for _, some := range lists(nodes, 3) {
		for _, roots := range lists(numbers, 2) {
			d := impl.Dag{Nodes: some, Roots: roots}
			trees, there := known[dagText(d)]
			if again, code := impl.Unshare(d); (code == impl.OK) != there || code != impl.OK && code != impl.ErrForm || !sameTrees(again, trees) {
				t.Fatalf("%s: %d trees, %d", dagText(d), len(again), code)
			}
			right += oneFor(there)
		}
	}
	if right < 100 {
		t.Errorf("only %d are right", right)
	}
}

// What is spoilt in one place is ErrForm, or what Share makes of other trees.
func TestSpoiltDags(t *testing.T) {
	r := rand.New(rand.NewSource(96))
	wrong, other := 0, 0
	for range 6000 {
		trees := alikeTrees(r)
		d := copyDag(sharedBy(trees))
		if len(d.Nodes) == 0 {
			continue
		}
		n := &d.Nodes[r.Intn(len(d.Nodes))]
		switch r.Intn(8) {
		case 0:
			n.Name = oneOf(r, "", "1", "a", "b", "c")
		case 1:
			n.Text = oneOf(r, "", "x", "y")
		case 2:
			n.Leaf = !n.Leaf
		case 3:
			n.Kids = append(n.Kids, r.Intn(len(d.Nodes)+2)-1)
		case 4:
			if len(n.Kids) > 0 {
				n.Kids[r.Intn(len(n.Kids))] = r.Intn(len(d.Nodes)+2) - 1
			}
		case 5:
			d.Roots[r.Intn(len(d.Roots))] = r.Intn(len(d.Nodes)+2) - 1
		case 6:
			d.Roots = d.Roots[1:]
		case 7:
			d.Nodes = append(d.Nodes, *n)
		}
		again, code := impl.Unshare(d)
		if code == impl.OK && dagText(sharedBy(again)) != dagText(d) || code != impl.OK && (code != impl.ErrForm || len(again) != 0) {
			t.Fatalf("%s: %d", dagText(d), code)
		}
		wrong += oneFor(code == impl.ErrForm)
		other += oneFor(code == impl.OK)
	}
	if wrong < 500 || other < 500 {
		t.Errorf("%d were none and %d were others", wrong, other)
	}
}

func dag(roots []int, nodes ...impl.DagNode) impl.Dag { return impl.Dag{Nodes: nodes, Roots: roots} }

func dagLeaf(name string, text string) impl.DagNode {
	return impl.DagNode{Name: name, Text: text, Leaf: true}
}

func dagNode(name string, kids ...int) impl.DagNode { return impl.DagNode{Name: name, Kids: kids} }

func TestDagsThatAreNone(t *testing.T) {
	a, b := dagLeaf("a", ""), dagLeaf("b", "")
	long := strings.Repeat("n", impl.MaxName+1)
	for why, d := range map[string]impl.Dag{
		"a Root that is no node":            dag([]int{1}, a),
		"a Root of nothing":                 dag([]int{0}),
		"a Root below 0":                    dag([]int{0, -1}, a),
		"a Root far below 0":                dag([]int{math.MinInt}, a),
		"a Root far above":                  dag([]int{0, math.MaxInt}, a),
		"no Root":                           dag(nil, a),
		"a Kid that is no node":             dag([]int{1}, a, dagNode("n", 2)),
		"a Kid below 0":                     dag([]int{1}, a, dagNode("n", 0, -1)),
		"a Kid far below 0":                 dag([]int{1}, a, dagNode("n", 0, math.MinInt)),
		"a Kid far above":                   dag([]int{1}, a, dagNode("n", 0, math.MaxInt)),
		"a Kid that is itself":              dag([]int{0}, dagNode("n", 0)),
		"a Kid that is itself, twice":       dag([]int{0}, dagNode("n", 0, 0)),
		"Kids that lead back":               dag([]int{1}, dagNode("n", 1), dagNode("n", 0)),
		"a Kid that stands too late":        dag([]int{0}, dagNode("n", 1), a),
		"Kids in another order":             dag([]int{2}, a, b, dagNode("n", 1, 0)),
		"Roots in another order":            dag([]int{1, 0}, a, b),
		"a tree ahead of one of its own":    dag([]int{0, 1}, a, dagNode("n", 2), b),
		"a node twice":                      dag([]int{0, 1}, a, a),
		"a node twice, as a Kid":            dag([]int{2}, a, a, dagNode("n", 0, 1)),
		"a node twice, by Kids":             dag([]int{3}, a, dagNode("n", 0), dagNode("n", 0), dagNode("n", 1, 2)),
		"a node that is not asked for":      dag([]int{0}, a, b),
		"a node that is not asked for yet":  dag([]int{1}, a, b),
		"a wrong one that is not asked for": dag([]int{0}, a, dagLeaf("", "")),
		"no Name of a leaf":                 dag([]int{0}, dagLeaf("", "")),
		"no Name of a node":                 dag([]int{1}, a, dagNode("", 0)),
		"a Name that is none":               dag([]int{0}, dagNode("1")),
		"a Name that is none, of a Kid":     dag([]int{1}, dagNode("a-b"), dagNode("n", 0)),
		"a long Name":                       dag([]int{0}, dagLeaf(long, "")),
		"a long Text":                       dag([]int{0}, dagLeaf("a", strings.Repeat("x", impl.MaxLeaf+1))),
		"a node with a Text":                dag([]int{0}, impl.DagNode{Name: "a", Text: "x"}),
		"a node with a Text and Kids":       dag([]int{1}, a, impl.DagNode{Name: "a", Text: "x", Kids: []int{0}}),
		"a leaf with Kids":                  dag([]int{1}, a, impl.DagNode{Name: "a", Leaf: true, Kids: []int{0}}),
		"a node that is nothing":            dag([]int{0}, impl.DagNode{}),
		"nodes that are nothing":            {Nodes: make([]impl.DagNode, 100000), Roots: []int{0}},
		"one Root too many":                 dag(make([]int, impl.MaxTrees+1), a),
		"very many Roots":                   dag(make([]int, 1000000), a),
		"too many Roots of nothing":         dag(make([]int, impl.MaxTrees+1)),
	} {
		noTrees(t, why, d)
	}
	wantUnshared(t, impl.Dag{}, nil)
	wantUnshared(t, dag([]int{}), nil)
	wantUnshared(t, dag(make([]int, impl.MaxTrees), a), slices.Repeat([]impl.Tree{leaf("a", "")}, impl.MaxTrees))
	wantUnshared(t, dag([]int{0, 1}, a, dagNode("n", 0, 0)), []impl.Tree{leaf("a", ""), node("n", leaf("a", ""), leaf("a", ""))})
	wantUnshared(t, dag([]int{1, 0}, dagLeaf(long[1:], strings.Repeat("x", impl.MaxLeaf)), dagNode("n", 0)), []impl.Tree{node("n", leaf(long[1:], strings.Repeat("x", impl.MaxLeaf))), leaf(long[1:], strings.Repeat("x", impl.MaxLeaf))})
	wantUnshared(t, dag([]int{0}, impl.DagNode{Name: "a", Leaf: true, Kids: []int{}}), []impl.Tree{leaf("a", "")})
}

// doubling has as many nodes, each with the one ahead of it as its Kid twice.
func doubling(levels int) impl.Dag {
	d := dag([]int{levels - 1}, dagLeaf("a", ""))
	for i := 1; i < levels; i++ {
		d.Nodes = append(d.Nodes, dagNode("n", i-1, i-1))
	}
	return d
}

func TestTreesThatGrowTooLarge(t *testing.T) {
	flat := func(kids int) impl.Dag { return dag([]int{1}, dagLeaf("k", ""), dagNode("n", make([]int, kids)...)) }
	wantUnshared(t, flat(impl.MaxNodes-1), []impl.Tree{wide(impl.MaxNodes)})
	noTrees(t, "one too many", flat(impl.MaxNodes))
	noTrees(t, "very many", flat(10000000))
	chained := func(levels int) impl.Dag {
		d := dag([]int{levels - 1}, dagLeaf("a", ""))
		for i := 1; i < levels; i++ {
			d.Nodes = append(d.Nodes, dagNode("n", i-1))
		}
		return d
	}
	wantUnshared(t, chained(impl.MaxDepth), []impl.Tree{deep(impl.MaxDepth)})
	noTrees(t, "one too deep", chained(impl.MaxDepth+1))
	noTrees(t, "very deep", chained(1000000))
	if trees, code := impl.Unshare(doubling(9)); len(trees) != 1 || len(pathsOf(trees[0])) != 511 || code != impl.OK {
		t.Error("511 trees in one", code)
	}
	for _, levels := range []int{10, 11, impl.MaxDepth, 62, 65, 1000} {
		noTrees(t, "doubled", doubling(levels))
	}
	// The limit is that of each tree, not of all of them.
	many := flat(impl.MaxNodes - 1)
	many.Roots = slices.Repeat([]int{1}, impl.MaxTrees)
	wantUnshared(t, many, slices.Repeat([]impl.Tree{wide(impl.MaxNodes)}, impl.MaxTrees))
	// 489 + 511 trees are just as many as there may be, with the node above them one more.
	both := doubling(9)
	both.Nodes = append(both.Nodes, impl.DagNode{Name: "m", Kids: append(make([]int, 488), 8)})
	both.Roots = []int{9}
	if trees, code := impl.Unshare(both); len(trees) != 1 || len(pathsOf(trees[0])) != impl.MaxNodes || code != impl.OK {
		t.Error("just as many as there may be", code)
	}
	both.Nodes[9].Kids = append(make([]int, 489), 8)
	noTrees(t, "one more", both)
}

func TestSharingKeepsAndSharesNothing(t *testing.T) {
	r := rand.New(rand.NewSource(97))
	for range 300 {
		plainTrees := alikeTrees(r)
		var given []impl.Tree
		for _, x := range plainTrees {
			given = append(given, roomy(x))
		}
		given = append(given, leaf("spare", "spare"))
		trees := given[:len(plainTrees)]
		d, _ := impl.Share(trees)
		want := dagText(d)
		for i := range d.Nodes {
			spoilLists(d.Nodes[i].Kids)
			if text := dagText(copyDagWithout(d, i)); text != dagText(copyDagWithout(sharedBy(trees), i)) {
				t.Fatalf("the Kids of node %d share memory with others", i)
			}
			d.Nodes[i].Kids = slices.Clone(sharedBy(trees).Nodes[i].Kids)
		}
		spoilLists(d.Roots)
		if again := checkShare(t, trees...); dagText(again) != want {
			t.Fatal("two answers share memory")
		}
		if len(trees) > 0 {
			_, _ = impl.SharedWith(trees[0], trees[len(trees)-1])
		}
		if !sameTrees(trees, plainTrees) || !sameTree(given[len(given)-1], leaf("spare", "spare")) || !allOfThem(trees, sparesKept) {
			t.Fatal("an argument was written to")
		}
	}
}

// copyDagWithout leaves out the Kids of one node.
func copyDagWithout(d impl.Dag, number int) impl.Dag {
	c := copyDag(d)
	c.Nodes[number].Kids = nil
	return c
}

func allOfThem[E any](list []E, right func(E) bool) bool {
	return !slices.ContainsFunc(list, func(e E) bool { return !right(e) })
}

func TestUnsharingKeepsAndSharesNothing(t *testing.T) {
	r := rand.New(rand.NewSource(98))
	for range 300 {
		trees := alikeTrees(r)
		d := sharedBy(trees)
		want := dagText(d)
		whole := copyDag(d)
		for i := range whole.Nodes {
			whole.Nodes[i].Kids = append(whole.Nodes[i].Kids, 77)
			d.Nodes[i].Kids = whole.Nodes[i].Kids[:len(d.Nodes[i].Kids)]
		}
		whole.Roots = append(whole.Roots, 77)
		d.Roots = whole.Roots[:len(d.Roots)]
		wantUnshared(t, d, trees)
		again, _ := impl.Unshare(d)
		// Each tree of the answer is spoilt in its turn, and those behind it are as they were.
		for i := range again {
			if !sameTree(again[i], trees[i]) {
				t.Fatal("two trees of an answer share memory")
			}
			for j, kid := range again[i].Kids {
				if !sameTree(kid, trees[i].Kids[j]) {
					t.Fatal("two Kids of an answer share memory")
				}
				spoil(kid)
			}
			spoil(again[i])
		}
		wantUnshared(t, d, trees)
		if dagText(d) != want {
			t.Fatal("an argument was written to")
		}
		for i := range whole.Nodes {
			if whole.Nodes[i].Kids[len(whole.Nodes[i].Kids)-1] != 77 {
				t.Fatal("the room behind an argument was written to")
			}
		}
		if whole.Roots[len(whole.Roots)-1] != 77 {
			t.Fatal("the room behind an argument was written to")
		}
	}
}
