package tests

import (
	"math"
	"math/rand"
	"slices"
	"testing"

	"loop.example/g00037/impl"
)

func TestPatch(t *testing.T) {
	x := tree(`(E a"" (F b"") c"")`)
	one, two := tree(`N"1"`), tree(`(G N"2")`)
	for _, c := range []struct {
		why  string
		a    impl.Tree
		d    impl.Delta
		want string
	}{
		{"nothing", x, dSame(), `(E a"" (F b"") c"")`},
		{"nothing, of a leaf", one, dSame(), `N"1"`},
		{"anew", x, dNew(two), `(G N"2")`},
		{"anew, a leaf", x, dNew(one), `N"1"`},
		{"a leaf anew", one, dNew(x), `(E a"" (F b"") c"")`},
		{"anew the same", x, dNew(x), `(E a"" (F b"") c"")`},
		{"Kids, none changed", x, dKids(sames(3)...), `(E a"" (F b"") c"")`},
		{"no Kids, none changed", node("E"), dKids(), `(E)`},
		{"the first is anew", x, dKids(dNew(one), dSame(), dSame()), `(E N"1" (F b"") c"")`},
		{"the last is anew", x, dKids(dSame(), dSame(), dNew(two)), `(E a"" (F b"") (G N"2"))`},
		{"the first leaves", x, dKids(dOut(), dSame(), dSame()), `(E (F b"") c"")`},
		{"the last leaves", x, dKids(dSame(), dSame(), dOut()), `(E a"" (F b""))`},
		{"all leave", x, dKids(dOut(), dOut(), dOut()), `(E)`},
		{"one comes first", x, dKids(dIn(one), dSame(), dSame(), dSame()), `(E N"1" a"" (F b"") c"")`},
		{"one comes in between", x, dKids(dSame(), dIn(two), dSame(), dSame()), `(E a"" (G N"2") (F b"") c"")`},
		{"one comes last", x, dKids(dSame(), dSame(), dSame(), dIn(one)), `(E a"" (F b"") c"" N"1")`},
		{"several come", x, dKids(dIn(one), dIn(two), dSame(), dSame(), dIn(one), dSame(), dIn(one), dIn(one)), `(E N"1" (G N"2") a"" (F b"") N"1" c"" N"1" N"1")`},
		{"one comes into none", node("E"), dKids(dIn(one)), `(E N"1")`},
		{"all leave, others come", x, dKids(dOut(), dIn(one), dOut(), dOut(), dIn(two)), `(E N"1" (G N"2"))`},
		{"Kids of a Kid", x, dKids(dSame(), dKids(dNew(one)), dSame()), `(E a"" (F N"1") c"")`},
		{"Kids of a Kid leave and come", x, dKids(dOut(), dKids(dIn(one), dOut(), dIn(two)), dSame()), `(E (F N"1" (G N"2")) c"")`},
		{"Kids of a Kid, none changed", x, dKids(dSame(), dKids(dSame()), dSame()), `(E a"" (F b"") c"")`},
		{"each Kind", tree(`(E a"" b"" (F c"") d"")`), dKids(dSame(), dNew(two), dKids(dIn(one), dSame()), dOut(), dIn(one)), `(E a"" (G N"2") (F N"1" c"") N"1")`},
		{"a list that is empty, and none", x, impl.Delta{Kind: impl.DlSame, Tree: impl.Tree{Kids: []impl.Tree{}}, Kids: []impl.Delta{}}, `(E a"" (F b"") c"")`},
		{"a list that is empty, of a Tree", x, impl.Delta{Kind: impl.DlNew, Tree: impl.Tree{Name: "n", Leaf: true, Kids: []impl.Tree{}}, Kids: []impl.Delta{}}, `n""`},
	} {
		wantPatched(t, c.why, c.a, c.d, tree(c.want))
		if made, _, right := patchBy(c.a, c.d); !right || !sameTree(made, tree(c.want)) {
			t.Errorf("%s: the model says %s", c.why, written(made))
		}
	}
}

// around puts a change at the top, among Kids, and further down, each with a tree for which it is.
func around(d impl.Delta, a impl.Tree) ([]impl.Tree, []impl.Delta) {
	trees := []impl.Tree{a, node("E", a), node("E", leaf("x", ""), a, leaf("y", "")), node("E", leaf("x", ""), node("F", a))}
	return trees, []impl.Delta{d, dKids(d), dKids(dSame(), d, dSame()), dKids(dOut(), dKids(d))}
}

// noForm asks for ErrForm, wherever the change stands.
func noForm(t *testing.T, why string, a impl.Tree, d impl.Delta) {
	t.Helper()
	trees, deltas := around(d, a)
	for i := range trees {
		noPatch(t, why, trees[i], deltas[i], impl.ErrForm)
	}
}

// isForm asks for what the change makes, wherever it stands.
func isForm(t *testing.T, why string, a impl.Tree, d impl.Delta) {
	t.Helper()
	trees, deltas := around(d, a)
	for i := range trees {
		made, _, right := patchBy(trees[i], deltas[i])
		if !right {
			t.Errorf("%s: the model refuses %s", why, deltaText(deltas[i]))
		}
		wantPatched(t, why, trees[i], deltas[i], made)
	}
}

func TestChangesThatAreNone(t *testing.T) {
	x, one := tree(`(E a"" (F b"") c"")`), leaf("N", "1")
	for _, kind := range []int{0, 6, 7, -1, -impl.DlKids, math.MaxInt, math.MinInt} {
		noForm(t, "a Kind that is none", x, impl.Delta{Kind: kind})
		noForm(t, "a Kind that is none", x, impl.Delta{Kind: kind, Tree: one})
		noForm(t, "a Kind that is none", x, impl.Delta{Kind: kind, Kids: sames(3)})
		noForm(t, "a Kind that is none, for no Kid", node("E"), dKids(impl.Delta{Kind: kind}))
	}
	noPatch(t, "DlOut at the top", x, dOut(), impl.ErrForm)
	noPatch(t, "DlOut at the top, of a leaf", one, dOut(), impl.ErrForm)
	noPatch(t, "DlIn at the top", x, dIn(one), impl.ErrForm)
	noPatch(t, "DlIn at the top, of a leaf", one, dIn(one), impl.ErrForm)
	noForm(t, "DlKids of a leaf", one, dKids())
	noForm(t, "DlKids of a leaf", one, dKids(dSame()))
	noForm(t, "DlKids of a leaf", one, dKids(dIn(one)))
	noForm(t, "DlKids of a leaf", leaf("N", ""), dKids(dOut()))
	isForm(t, "all Kids", x, dKids(sames(3)...))
	for n := range 8 {
		if n != 3 {
			noForm(t, "Kids for more or fewer than there are", x, dKids(sames(n)...))
			noForm(t, "Kids for more or fewer than there are, all leave", x, dKids(slices.Repeat([]impl.Delta{dOut()}, n)...))
		}
	}
	noForm(t, "one more than none", node("E"), dKids(dSame()))
	noForm(t, "one more leaves than none", node("E"), dKids(dOut()))
	noForm(t, "one more anew than none", node("E"), dKids(dNew(one)))
	noForm(t, "one more with Kids than none", node("E"), dKids(dKids()))
	noForm(t, "one that came in is no next Kid", node("E"), dKids(dIn(one), dSame()))
	noForm(t, "one fewer, though as many come in", x, dKids(dSame(), dSame(), dIn(one)))
	noForm(t, "one more behind one that comes in", x, dKids(dSame(), dSame(), dSame(), dIn(one), dOut()))
	noForm(t, "Kids of a Kid, one fewer", x, dKids(dSame(), dKids(), dSame()))
	noForm(t, "Kids of a Kid, one more", x, dKids(dSame(), dKids(dSame(), dSame()), dSame()))
	noForm(t, "Kids of a Kid that leaves as well", x, dKids(dSame(), impl.Delta{Kind: impl.DlOut, Kids: sames(1)}, dSame()))
}

func TestWhatAChangeDoesNotName(t *testing.T) {
	x, one := tree(`(F b"")`), leaf("N", "1")
	notZero := map[string]impl.Tree{"Name": {Name: "a"}, "Text": {Text: "a"}, "Leaf": {Leaf: true}, "Kids": {Kids: []impl.Tree{{}}}, "all": one, "endless": endless(1), "endless Kids": {Kids: []impl.Tree{endless(2)}}}
	// As Kids of a node with one Kid, so that each Kind can stand there.
	named := map[int]impl.Delta{impl.DlSame: dSame(), impl.DlNew: dNew(one), impl.DlKids: dKids(dSame()), impl.DlOut: dOut(), impl.DlIn: dIn(one)}
	for kind, d := range named {
		kids := []impl.Delta{d}
		if kind == impl.DlIn {
			kids = append(kids, dSame())
		}
		with := func(change func(d *impl.Delta)) impl.Delta {
			list := slices.Clone(kids)
			change(&list[0])
			return dKids(list...)
		}
		a := node("E", x)
		isForm(t, deltaText(d), a, with(func(d *impl.Delta) {}))
		if kind != impl.DlNew && kind != impl.DlIn {
			for why, wrong := range notZero {
				noForm(t, deltaText(d)+" with a Tree: "+why, a, with(func(d *impl.Delta) { d.Tree = wrong }))
			}
		}
		if kind != impl.DlKids {
			for _, wrong := range [][]impl.Delta{{{}}, {dSame()}, {dOut()}, {dIn(one)}, {dIn(impl.Tree{})}} {
				noForm(t, deltaText(d)+" with Kids", a, with(func(d *impl.Delta) { d.Kids = wrong }))
			}
		}
	}
	noPatch(t, "DlSame with a Tree at the top", x, impl.Delta{Kind: impl.DlSame, Tree: x}, impl.ErrForm)
	noPatch(t, "DlSame with Kids at the top", x, impl.Delta{Kind: impl.DlSame, Kids: sames(1)}, impl.ErrForm)
	noPatch(t, "DlNew with Kids at the top", x, impl.Delta{Kind: impl.DlNew, Tree: x, Kids: sames(1)}, impl.ErrForm)
	noPatch(t, "DlKids with a Tree at the top", x, impl.Delta{Kind: impl.DlKids, Tree: x, Kids: sames(1)}, impl.ErrForm)
}

func TestPatchWithWrongTrees(t *testing.T) {
	x := tree(`(E a"" (F b"") c"")`)
	for why, wrong := range wrongTrees() {
		noForm(t, "DlNew: "+why, x, dNew(wrong))
		noForm(t, "DlIn: "+why, x, dKids(dSame(), dSame(), dSame(), dIn(wrong)))
		noForm(t, "DlIn, of no Kids: "+why, node("E"), dKids(dIn(wrong)))
		// A tree that is not right is told ahead of all.
		noPatch(t, why, wrong, dSame(), impl.ErrBad)
		noPatch(t, why, wrong, dNew(x), impl.ErrBad)
		noPatch(t, why, wrong, dKids(), impl.ErrBad)
		noPatch(t, why, wrong, impl.Delta{}, impl.ErrBad)
		noPatch(t, why, wrong, dNew(wrong), impl.ErrBad)
		noPatch(t, why, wrong, dIn(x), impl.ErrBad)
	}
	noForm(t, "no Tree", x, dNew(impl.Tree{}))
	noForm(t, "no Tree", node("E"), dKids(dIn(impl.Tree{})))
}

func TestPatchTooLarge(t *testing.T) {
	one, two := leaf("k", ""), node("k", leaf("k", ""))
	most := wide(impl.MaxNodes)
	kids := func(n int, more ...impl.Delta) impl.Delta { return dKids(append(sames(n), more...)...) }
	wantPatched(t, "as many as there may be", wide(impl.MaxNodes-1), kids(impl.MaxNodes-2, dIn(one)), most)
	noPatch(t, "one more comes in", most, kids(impl.MaxNodes-1, dIn(one)), impl.ErrFull)
	noPatch(t, "two come in where one may", wide(impl.MaxNodes-1), kids(impl.MaxNodes-2, dIn(two)), impl.ErrFull)
	wantPatched(t, "one leaves, one comes in", most, kids(impl.MaxNodes-2, dOut(), dIn(one)), most)
	wantPatched(t, "one comes in, one leaves", most, dKids(append([]impl.Delta{dIn(one), dOut()}, sames(impl.MaxNodes-2)...)...), most)
	noPatch(t, "one leaves, two come in", most, kids(impl.MaxNodes-2, dOut(), dIn(two)), impl.ErrFull)
	noPatch(t, "one anew that is larger by one", most, kids(impl.MaxNodes-2, dNew(two)), impl.ErrFull)
	want := wide(impl.MaxNodes - 1)
	want.Kids[impl.MaxNodes-3] = two
	wantPatched(t, "one anew that is larger by one, and fits", wide(impl.MaxNodes-1), kids(impl.MaxNodes-3, dNew(two)), want)
	wantPatched(t, "all anew, as large as may be", most, dNew(most), most)
	wantPatched(t, "all come in", node("n"), dKids(slices.Repeat([]impl.Delta{dIn(one)}, impl.MaxNodes-1)...), most)
	noPatch(t, "one more comes in, into none", node("n"), dKids(slices.Repeat([]impl.Delta{dIn(one)}, impl.MaxNodes)...), impl.ErrFull)
	noPatch(t, "much too many", node("n"), dKids(slices.Repeat([]impl.Delta{dIn(most)}, 3000)...), impl.ErrFull)
	noPatch(t, "as large as may be, within another", node("n"), dKids(dIn(most)), impl.ErrFull)
	noPatch(t, "as large as may be, for a Kid", node("n", one), dKids(dNew(most)), impl.ErrFull)
	// Far too many, in a list that stands in each Kid.
	many := dKids(slices.Repeat([]impl.Delta{dIn(one)}, 2000)...)
	thousand := node("n", slices.Repeat([]impl.Tree{node("k")}, impl.MaxNodes-1)...)
	noPatch(t, "far too many", thousand, dKids(slices.Repeat([]impl.Delta{many}, impl.MaxNodes-1)...), impl.ErrFull)
	// A form that is wrong counts first, wherever it is.
	noPatch(t, "far too many, and one wrong", thousand, dKids(append(slices.Repeat([]impl.Delta{many}, impl.MaxNodes-2), dOut(), dOut())...), impl.ErrForm)
	noPatch(t, "too many, and one Kid more", most, kids(impl.MaxNodes-1, dIn(one), dSame()), impl.ErrForm)
	noPatch(t, "too many, and one Kid fewer", most, kids(impl.MaxNodes-2, dIn(two), dIn(two)), impl.ErrForm)
	noPatch(t, "much too many, and one that is none", node("n"), dKids(append(slices.Repeat([]impl.Delta{dIn(most)}, 1100), impl.Delta{})...), impl.ErrForm)
}

func TestPatchTooDeep(t *testing.T) {
	// down does a change to the leaf of deep(n), or to the node that is k above it.
	down := func(n int, k int, d impl.Delta) impl.Delta {
		for range n - 1 - k {
			d = dKids(d)
		}
		return d
	}
	most := deep(impl.MaxDepth)
	one, two := leaf("a", ""), node("n", leaf("a", ""))
	wantPatched(t, "as deep as may be", deep(impl.MaxDepth-1), down(impl.MaxDepth-1, 0, dNew(two)), most)
	noPatch(t, "the leaf becomes one deeper", most, down(impl.MaxDepth, 0, dNew(two)), impl.ErrFull)
	wantPatched(t, "the leaf becomes a node", most, down(impl.MaxDepth, 0, dNew(node("n"))), deepWith(node("n"), false))
	wantPatched(t, "another leaf comes beside it", most, down(impl.MaxDepth, 1, dKids(dSame(), dIn(one))), putBy(most, make([]int, impl.MaxDepth-2), node("n", one, one)))
	noPatch(t, "one that is deeper comes beside it", most, down(impl.MaxDepth, 1, dKids(dSame(), dIn(two))), impl.ErrFull)
	noPatch(t, "one that is deeper comes instead of it", most, down(impl.MaxDepth, 1, dKids(dOut(), dIn(two))), impl.ErrFull)
	noPatch(t, "as deep as may be, within another", node("n"), dKids(dIn(most)), impl.ErrFull)
	wantPatched(t, "just within another", node("n"), dKids(dIn(deep(impl.MaxDepth-1))), most)
	noPatch(t, "as deep as may be, for a Kid", node("n", one), dKids(dNew(most)), impl.ErrFull)
	wantPatched(t, "all anew", one, dNew(most), most)
	noPatch(t, "too deep, and one Kid more", most, down(impl.MaxDepth, 1, dKids(dNew(two), dSame())), impl.ErrForm)
}

// Changes that lead back into themselves always ask for a Kid more than there is in the end.
func TestPatchByEndlessChanges(t *testing.T) {
	two := node("n", node("n", node("n"), node("n")), node("n", node("n"), node("n")))
	trees := []impl.Tree{leaf("a", ""), node("n"), deep(impl.MaxDepth), deepWith(node("n"), false), wide(impl.MaxNodes), two, node("n", slices.Repeat([]impl.Tree{node("n")}, impl.MaxNodes-1)...)}
	for width := 1; width < 4; width++ {
		for _, first := range [][]impl.Delta{nil, {dIn(leaf("b", ""))}, slices.Repeat([]impl.Delta{dIn(wide(impl.MaxNodes))}, 50)} {
			kids := append(slices.Clone(first), make([]impl.Delta, width)...)
			for i := range width {
				kids[len(first)+i] = impl.Delta{Kind: impl.DlKids, Kids: kids}
			}
			for _, a := range trees {
				noPatch(t, "endless", a, kids[len(first)], impl.ErrForm)
			}
		}
	}
}

// someDelta is one for a tree, mostly: sometimes something is wrong with it.
func someDelta(r *rand.Rand, a impl.Tree, among bool) impl.Delta {
	if r.Intn(50) == 0 {
		return oneOf(r, impl.Delta{}, dOut(), dIn(leaf("a", "")), dKids(), dNew(impl.Tree{}), impl.Delta{Kind: impl.DlSame, Tree: node("a")}, impl.Delta{Kind: impl.DlNew, Tree: node("a"), Kids: sames(1)}, impl.Delta{Kind: 6})
	}
	switch choice := r.Intn(10); {
	case among && choice == 0:
		return dOut()
	case choice < 3:
		return dSame()
	case a.Leaf || choice == 3:
		return dNew(alikeTree(r, 1+r.Intn(3)))
	}
	d := dKids()
	for _, kid := range a.Kids {
		for r.Intn(4) == 0 {
			d.Kids = append(d.Kids, dIn(alikeTree(r, 1+r.Intn(3))))
		}
		d.Kids = append(d.Kids, someDelta(r, kid, true))
	}
	if r.Intn(4) == 0 {
		d.Kids = append(d.Kids, dIn(alikeTree(r, 1+r.Intn(3))))
	}
	return d
}

func TestPatchByAnyChange(t *testing.T) {
	r := rand.New(rand.NewSource(153))
	met := map[int]int{}
	for range 10000 {
		a := alikeTree(r, 1+r.Intn(5))
		d := someDelta(r, a, false)
		made, cost, right := patchBy(a, d)
		if !right {
			noPatch(t, deltaText(d), a, d, impl.ErrForm)
			met[0]++
			continue
		}
		wantPatched(t, "any change", a, d, made)
		met[d.Kind]++
		// No change to the same tree costs less than the one that Diff tells.
		if _, least := checkDiff(t, a, made); least > cost {
			t.Fatalf("from %s to %s: %s costs %d, and Diff says %d", written(a), written(made), deltaText(d), cost, least)
		}
	}
	for _, kind := range []int{0, impl.DlSame, impl.DlNew, impl.DlKids} {
		if met[kind] < 300 {
			t.Errorf("only %d of Kind %d", met[kind], kind)
		}
	}
}

// roomyDelta has a spare one behind each list.
func roomyDelta(d impl.Delta) impl.Delta {
	if !isZero(d.Tree) {
		d.Tree = roomy(d.Tree)
	}
	kids := make([]impl.Delta, 0, len(d.Kids)+1)
	for _, kid := range d.Kids {
		kids = append(kids, roomyDelta(kid))
	}
	kids[:len(kids)+1][len(kids)] = impl.Delta{Kind: 77}
	d.Kids = kids
	return d
}

func deltaSparesKept(d impl.Delta) bool {
	if d.Kids[:len(d.Kids)+1][len(d.Kids)].Kind != 77 || !isZero(d.Tree) && !sparesKept(d.Tree) {
		return false
	}
	return allOfThem(d.Kids, deltaSparesKept)
}

func TestPatchKeepsAndSharesNothing(t *testing.T) {
	r := rand.New(rand.NewSource(154))
	for range 2000 {
		a := alikeTree(r, 1+r.Intn(5))
		plain := someDelta(r, a, false)
		if _, _, right := patchBy(a, plain); !right {
			continue
		}
		x, d := roomy(a), roomyDelta(plain)
		u, _ := impl.Patch(x, d)
		answer, given := memory{}, memory{}
		answer.addTree(u)
		given.addTree(x)
		given.addDelta(d)
		if !answer.isApart(given) {
			t.Fatalf("Patch of %s by %s shares memory", written(a), deltaText(d))
		}
		if !sameTree(x, a) || deltaText(d) != deltaText(plain) || !sparesKept(x) || !deltaSparesKept(d) {
			t.Fatal("an argument was written to")
		}
	}
	// One Tree that comes in several times, and one list of Kids for several.
	once := tree(`(F a"")`)
	u, _ := impl.Patch(tree(`(E b"" (G) (G))`), dKids(dNew(once), dKids(dIn(once), dIn(once)), dKids(dIn(once))))
	answer := memory{}
	answer.addTree(u)
	if !answer.isApart(nil) || written(u) != `(E (F a"") (G (F a"") (F a"")) (G (F a"")))` {
		t.Error("two trees of an answer share memory", written(u))
	}
}
