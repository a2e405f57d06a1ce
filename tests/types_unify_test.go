package tests

import (
	"math/rand"
	"slices"
	"strconv"
	"strings"
	"testing"

	"loop.example/g00037/impl"
)

func TestUnify(t *testing.T) {
	for _, x := range []struct {
		why   string
		pairs []impl.Same
		binds []string
	}{
		{"no pairs at all", pairs(), nil},
		{"nil", nil, nil},
		{"a leaf with itself", pairs("1 = 1"), nil},
		{"a node with itself", pairs("(F) = (F)"), nil},
		{"a node with Kids, with itself", pairs("(F 1 (G 2)) = (F 1 (G 2))"), nil},
		{"a variable with itself", pairs("x = x"), nil},
		{"a variable with itself, within", pairs("(F x (G x)) = (F x (G x))"), nil},
		{"two variables", pairs("x = y"), []string{"y=x"}},
		{"two variables, the other way round", pairs("y = x"), []string{"x=y"}},
		{"two variables twice", pairs("x = y", "y = x"), []string{"y=x"}},
		{"a variable and a leaf", pairs("x = 1"), []string{"x=1"}},
		{"a leaf and a variable", pairs("1 = x"), []string{"x=1"}},
		{"a variable and a node", pairs("x = (F)"), []string{"x=(F)"}},
		{"a node and a variable", pairs("(F 1) = x"), []string{"x=(F 1)"}},
		{"a variable in a tree stays", pairs("x = (F y)"), []string{"x=(F y)"}},
		{"a variable in a tree stays, that first stands ahead", pairs("(F y) = x"), []string{"x=(F y)"}},
		{"one tree for two places", pairs("(F x x) = (F 1 1)"), []string{"x=1"}},
		{"two variables of one tree", pairs("(F x y) = (F y 1)"), []string{"x=1", "y=1"}},
		{"in the place of a tree each way", pairs("(F x 1) = (F 2 y)"), []string{"x=2", "y=1"}},
		// What comes has no variable that has a Bind itself.
		{"a tree in a tree", pairs("x = (F y)", "y = (G z)"), []string{"x=(F (G z))", "y=(G z)"}},
		{"a tree in a tree, the other way round", pairs("y = (G z)", "x = (F y)"), []string{"y=(G z)", "x=(F (G z))"}},
		{"a tree in a tree in a tree", pairs("x = (F y y)", "y = (F z z)", "z = 1"), []string{"x=(F (F 1 1) (F 1 1))", "y=(F 1 1)", "z=1"}},
		{"a variable in a tree that is another", pairs("x = (F y)", "z = y"), []string{"x=(F y)", "z=y"}},
		{"a variable in a tree that is another, which stands ahead", pairs("z = z", "x = (F y)", "z = y"), []string{"x=(F z)", "y=z"}},
		{"two trees for one variable", pairs("x = (F y 1)", "x = (F 2 z)"), []string{"x=(F 2 1)", "y=2", "z=1"}},
		{"two trees with variables for one variable", pairs("x = (F y)", "x = (F z)"), []string{"x=(F y)", "z=y"}},
		{"several variables come to one tree", pairs("a = b", "c = d", "b = c", "d = (F e)", "e = 1"), []string{"a=(F 1)", "b=(F 1)", "c=(F 1)", "d=(F 1)", "e=1"}},
		{"trees that are the same by what comes later", pairs("(F a a) = (F (G b) (G 2))"), []string{"a=(G 2)", "b=2"}},
		{"trees within trees", pairs("(F (G x) y (H y)) = (F y z (H (G 1)))"), []string{"x=1", "y=(G 1)", "z=(G 1)"}},
		// The order of the Binds is that in which the variables first stand.
		{"Left ahead of Right", pairs("(F b a) = (F 1 2)"), []string{"b=1", "a=2"}},
		{"Right behind Left", pairs("(F b 1) = (F 2 a)"), []string{"b=2", "a=1"}},
		{"the first pair ahead of the second", pairs("1 = b", "a = 2"), []string{"b=1", "a=2"}},
		{"a tree ahead of those behind it", pairs("(F (G z (H y)) x) = (F (G 1 (H 2)) 3)"), []string{"z=1", "y=2", "x=3"}},
		{"in the Left of a later pair, behind the Right of an earlier one", pairs("c = (F b)", "a = 1", "b = 2"), []string{"c=(F 2)", "b=2", "a=1"}},
		// Names that are much alike, and Var that is no leaf.
		{"names that are other ones", pairs("(F x xx x_ x1 x0) = (F 1 2 3 4 5)"), []string{"x=1", "xx=2", "x_=3", "x1=4", "x0=5"}},
		{"a node that is called Var", pairs("(Var x) = (Var 1)"), []string{"x=1"}},
		{"a node that is called Var, and a variable", pairs("x = (Var)"), []string{"x=(Var)"}},
	} {
		wantUnified(t, x.why, x.pairs, x.binds...)
	}
	// A large letter makes another name.
	if binds, ok, _ := checkUnify(t, []impl.Same{pair(node("F", variable("x"), variable("X")), pattern("(F 1 2)"))}); !ok || bindsText(binds) != `x=N"1" X=N"2"` {
		t.Error(bindsText(binds), ok)
	}
}

func TestPairsThatPart(t *testing.T) {
	for _, x := range []struct {
		why   string
		pairs []impl.Same
	}{
		{"leaves of another Text", pairs("1 = 2")},
		{"leaves of another Name", []impl.Same{pair(leaf("N", "1"), leaf("M", "1"))}},
		{"leaves of a Text and of none", []impl.Same{pair(leaf("N", "1"), leaf("N", ""))}},
		{"leaves of a Text that goes on", []impl.Same{pair(leaf("N", "1"), leaf("N", "10"))}},
		{"a leaf and a node", []impl.Same{pair(leaf("N", ""), node("N"))}},
		{"a node and a leaf", []impl.Same{pair(node("N"), leaf("N", ""))}},
		{"nodes of another Name", pairs("(F) = (G)")},
		{"nodes of another Name, with Kids", pairs("(F x) = (G x)")},
		{"nodes with more Kids", pairs("(F 1) = (F 1 1)")},
		{"nodes with fewer Kids", pairs("(F x y) = (F x)")},
		{"no Kids and some", pairs("(F) = (F x)")},
		{"Kids in another order", pairs("(F 1 2) = (F 2 1)")},
		{"deep within", pairs("(F (G (H x (G 1)))) = (F (G (H 2 (G 3))))")},
		{"a node that is called Var, and a leaf", pairs("(Var) = 1")},
		{"one variable, two leaves", pairs("(F x x) = (F 1 2)")},
		{"one variable, two nodes", pairs("(F x x) = (F (G) (H))")},
		{"one variable, a leaf and a node", []impl.Same{pair(node("F", variable("x"), variable("x")), node("F", leaf("N", ""), node("N")))}},
		{"one variable, two trees that part within", pairs("(F x x) = (F (G y 1) (G 2 y))")},
		{"through variables", pairs("(F a b c a) = (F b c 1 2)")},
		// A variable that would have to stand within itself.
		{"at once", pairs("x = (F x)")},
		{"at once, the other way round", pairs("(F x) = x")},
		{"deep within at once", pairs("x = (F 1 (G (H 2 x)))")},
		{"in one pair", pairs("(F x y) = (F (G y) (G x))")},
		{"in one pair, by the same variable", pairs("(F x x) = (F y (G y))")},
		{"in one pair, in a tree that stands twice", pairs("(F x x) = (F (G y) (G (G y)))")},
	} {
		wantParted(t, x.why, x.pairs, 0)
		// Also beside pairs that say nothing, behind which it stands.
		beside := slices.Concat(pairs("p = q", "(F r) = (F 1)"), x.pairs, pairs("s = s"))
		wantParted(t, x.why+", beside others", beside, 2)
	}
	for _, x := range []struct {
		why   string
		pairs []impl.Same
		want  []int
	}{
		{"two variables, each in the other", pairs("x = (F y)", "y = (F x)"), []int{0, 1}},
		{"two variables that are the same, one in the other", pairs("x = y", "y = (F x)"), []int{0, 1}},
		{"two variables, one in the other, that are the same later", pairs("y = (F x)", "x = y"), []int{0, 1}},
		{"three variables", pairs("x = (F y)", "y = (G z)", "z = (H x)"), []int{0, 1, 2}},
		{"three variables, in another order", pairs("z = (H x)", "x = (F y)", "y = (G z)"), []int{0, 1, 2}},
		{"with variables between", pairs("x = (F a)", "a = b", "b = c", "c = (G d)", "d = x"), []int{0, 1, 2, 3, 4}},
		{"by trees that are made the same", pairs("x = (F y z)", "x = (F z (G y))"), []int{0, 1}},
		{"in something that nobody asks for", pairs("a = 1", "x = (F y)", "b = 2", "y = (F x)"), []int{1, 3}},
	} {
		wantParted(t, x.why, x.pairs, x.want...)
	}
	// A ring of as many as there are pairs, and without its last step.
	var ring []impl.Same
	for i := range impl.MaxPairs {
		ring = append(ring, pair(variable("x"+strconv.Itoa(i)), node("F", variable("x"+strconv.Itoa((i+1)%impl.MaxPairs)))))
	}
	if binds, ok, code := impl.Unify(ring); ok || code != impl.OK || len(binds) != 0 {
		t.Error(ok, code)
	}
	if places := checkBlame(t, ring); len(places) != impl.MaxPairs {
		t.Error(places)
	}
	if binds, ok, code := checkUnify(t, ring[1:]); !ok || code != impl.OK || len(binds) != impl.MaxPairs-1 {
		t.Error(len(binds), ok, code)
	}
}

// Variables that are all the same, through pairs in each order, each turned each way: the one that first stands first has no Bind, whichever way the pairs are turned.
func TestRingsOfVariables(t *testing.T) {
	names := []string{"a", "b", "c", "d"}
	for _, steps := range [][][2]int{
		{{0, 1}, {1, 2}, {2, 3}, {3, 0}},
		{{0, 1}, {1, 2}, {2, 3}},
		{{0, 1}, {0, 2}, {0, 3}},
		{{0, 1}, {2, 3}, {0, 3}},
		{{0, 1}, {2, 3}, {1, 2}, {0, 0}},
	} {
		for _, order := range permutations(len(steps)) {
			for turned := range 1 << len(steps) {
				var list []impl.Same
				for _, i := range order {
					one := pair(variable(names[steps[i][0]]), variable(names[steps[i][1]]))
					if turned>>i&1 == 1 {
						one.Left, one.Right = one.Right, one.Left
					}
					list = append(list, one)
				}
				stand := variablesIn(sides(list)...)
				var want []string
				for _, name := range stand[1:] {
					want = append(want, name+"="+stand[0])
				}
				wantUnified(t, "a ring", list, want...)
				// With a tree for one of them each has a Bind, also the first.
				for _, name := range names {
					with := append(slices.Clone(list), pair(variable(name), pattern("(F e)")))
					var all []string
					for _, name := range stand {
						all = append(all, name+"=(F e)")
					}
					wantUnified(t, "a ring with a tree", with, all...)
				}
			}
		}
	}
	// Two rings stay two, until they are one.
	two := pairs("d = c", "b = a", "c = d", "a = b")
	wantUnified(t, "two rings", two, "c=d", "a=b")
	wantUnified(t, "two rings that become one", append(two, pairs("a = c")...), "c=d", "b=d", "a=d")
	wantUnified(t, "two rings in one pair", pairs("(F d b) = (F c a)"), "c=d", "a=b")
	wantUnified(t, "Left ahead of Right, deep within", pairs("(F (G z) y) = (F (G y) x)"), "y=z", "x=z")
	wantUnified(t, "first within a tree that comes to be one", pairs("w = (F z)", "z = y", "x = y"), "w=(F z)", "y=z", "x=z")
}

func permutations(n int) [][]int {
	if n == 0 {
		return [][]int{nil}
	}
	var all [][]int
	for _, list := range permutations(n - 1) {
		for i := range n {
			all = append(all, slices.Insert(slices.Clone(list), i, n-1))
		}
	}
	return all
}

// somePairs are often the same: both of a pair are made of one tree, with few variables, that often stand for trees that are alike.
func somePairs(r *rand.Rand) []impl.Same {
	var list []impl.Same
	for range 1 + r.Intn(4) {
		x := alikeTree(r, 1+r.Intn(4))
		left, right := somePatternOf(r, x), somePatternOf(r, oneOf(r, x, x, x, alikeTree(r, 2)))
		switch r.Intn(6) {
		case 0:
			left = variable(oneOf(r, "x", "y", "z", "w"))
		case 1:
			right = variable(oneOf(r, "x", "y", "z", "w"))
		}
		list = append(list, pair(left, right))
	}
	return list
}

func TestManyPairs(t *testing.T) {
	r := rand.New(rand.NewSource(20))
	met := map[string]int{}
	for range 30000 {
		list := somePairs(r)
		binds, ok, code := checkUnify(t, list)
		switch {
		case code != impl.OK:
			t.Fatalf("%s: %d", pairsText(list), code)
		case ok && len(binds) == 0:
			met["nothing stands for anything"]++
		case ok && slices.ContainsFunc(binds, func(b impl.Bind) bool { return len(variablesIn(b.Tree)) > 0 }):
			met["with variables"]++
		case ok:
			met["without variables"]++
		default:
			met["can't be, by "+strconv.Itoa(len(checkBlame(t, list)))]++
		}
	}
	for _, kind := range []string{"nothing stands for anything", "with variables", "without variables", "can't be, by 1", "can't be, by 2", "can't be, by 3"} {
		if met[kind] < 100 {
			t.Errorf("%s: only %d", kind, met[kind])
		}
	}
}

// All pairs of small patterns of two variables, each alone and each with each, against some small trees in the variables' places: whether there are such with which they are the same, and whether each choice of these is the binds, filled.
func TestAllSmallPairs(t *testing.T) {
	leaves := []impl.Tree{variable("x"), variable("y"), leaf("N", "1")}
	patterns := slices.Clone(leaves)
	for _, a := range leaves {
		patterns = append(patterns, node("F", a))
		for _, b := range leaves {
			patterns = append(patterns, node("F", a, b))
		}
	}
	grounds := []impl.Tree{leaf("N", "1"), node("F")}
	for _, a := range slices.Clone(grounds) {
		grounds = append(grounds, node("F", a))
		for _, b := range slices.Clone(grounds[:3]) {
			grounds = append(grounds, node("F", a, b))
		}
	}
	var all []impl.Same
	for _, left := range patterns {
		for _, right := range patterns {
			all = append(all, pair(left, right))
		}
	}
	check := func(list ...impl.Same) {
		binds, ok, _ := checkUnify(t, list)
		for _, x := range grounds {
			for _, y := range grounds {
				choice := []impl.Bind{bind("x", x), bind("y", y)}
				if slices.ContainsFunc(list, func(one impl.Same) bool { return !sameTree(fillBy(one.Left, choice), fillBy(one.Right, choice)) }) {
					continue
				}
				if !ok {
					t.Fatalf("%s can be the same, with %s", pairsText(list), bindsText(choice))
				}
				for _, b := range binds {
					if is, _ := boundTo(choice, b.Name); !sameTree(is, fillBy(b.Tree, choice)) {
						t.Fatalf("%s: %s is not the most general, for %s", pairsText(list), bindsText(binds), bindsText(choice))
					}
				}
			}
		}
	}
	for _, one := range all {
		check(one)
		for _, other := range all {
			check(one, other)
		}
	}
}

// grown are pairs of which each Tree has two of the next one: x0 = (F x1 x1), x1 = (F x2 x2) .., the last one is end.
func grown(count int, name string, end impl.Tree) []impl.Same {
	var list []impl.Same
	for i := range count {
		next := variable(name + strconv.Itoa(i+1))
		list = append(list, pair(variable(name+strconv.Itoa(i)), node("F", next, next)))
	}
	return append(list, pair(variable(name+strconv.Itoa(count)), end))
}

// Trees that grow twofold with each pair, until one is not right.
func TestTreesOfBindsThatGrow(t *testing.T) {
	// With count pairs the first Tree has 2 to the count + 1, less 1, trees.
	for count := range 9 {
		binds, ok, code := checkUnify(t, grown(count, "x", leaf("N", "1")))
		if !ok || code != impl.OK || len(binds) != count+1 {
			t.Fatal(count, ok, code)
		}
		if nodes, depth, _ := impl.TreeSize(binds[0].Tree); nodes != 1<<(count+1)-1 || depth != count+1 {
			t.Fatal(count, nodes, depth)
		}
	}
	for _, count := range []int{9, 10, 20, 40, impl.MaxPairs - 1} {
		wantFullPairs(t, strconv.Itoa(count)+" times twofold", grown(count, "x", leaf("N", "1")))
		// Also when the variable that is too large is the last.
		list := grown(count, "x", leaf("N", "1"))
		slices.Reverse(list)
		wantFullPairs(t, strconv.Itoa(count)+" times twofold, from the last on", list)
		// And where all of it is one pair.
		left, right := node("P"), node("P")
		for _, one := range list {
			left.Kids, right.Kids = append(left.Kids, one.Right), append(right.Kids, one.Left)
		}
		wantFullPairs(t, strconv.Itoa(count)+" times twofold in one pair", []impl.Same{pair(left, right)})
	}
	// Whether they can be the same is asked ahead of that.
	for _, count := range []int{9, 20, impl.MaxPairs - 2} {
		large := grown(count, "x", leaf("N", "1"))
		parted := append(slices.Clone(large), pairs("x0 = 1")...)
		if binds, ok, code := impl.Unify(parted); ok || code != impl.OK || len(binds) != 0 {
			t.Error(count, ok, code)
		}
		endless := append(slices.Clone(large[:count]), pair(variable("x"+strconv.Itoa(count)), node("G", variable("x0"))))
		if binds, ok, code := impl.Unify(endless); ok || code != impl.OK || len(binds) != 0 {
			t.Error(count, ok, code)
		}
		if places, code := impl.Blame(endless); code != impl.OK || len(places) != count+1 {
			t.Error(places, code)
		}
	}
	// Two that are very large, and the same: this is found at once; or not, deep within.
	two := slices.Concat(grown(28, "x", leaf("N", "1")), grown(28, "y", leaf("N", "1")), pairs("x0 = y0"))
	wantFullPairs(t, "two that are very large", two)
	other := slices.Concat(grown(28, "x", leaf("N", "1")), grown(28, "y", leaf("N", "2")), pairs("x0 = y0"))
	if binds, ok, code := impl.Unify(other); ok || code != impl.OK || len(binds) != 0 {
		t.Error(ok, code)
	}
	places, code := impl.Blame(other)
	if code != impl.OK || len(places) != len(other) {
		t.Error(places, code)
	}
	blamedRightly(t, other, places)
	// One behind the other in two ways, so that each variable has a large tree of the others.
	alike := slices.Concat(grown(28, "x", variable("z")), grown(28, "y", variable("w")), pairs("y0 = x0"))
	wantFullPairs(t, "two that are made the same", alike)
}

// A right tree's limits, met exactly and passed by one.
func TestTreesOfBindsAsFarAsTheyMayBe(t *testing.T) {
	large := wide(impl.MaxNodes - 1)
	wantSize := func(why string, list []impl.Same, nodes int, depth int) {
		t.Helper()
		binds, ok, code := checkUnify(t, list)
		if !ok || code != impl.OK {
			t.Fatal(why, ok, code)
		}
		if n, d, _ := impl.TreeSize(binds[0].Tree); n != nodes || d != depth {
			t.Error(why, n, d)
		}
	}
	x, y := variable("x"), variable("y")
	wantSize("by its size", []impl.Same{pair(x, node("F", y)), pair(y, large)}, impl.MaxNodes, 3)
	wantFullPairs(t, "one too many", []impl.Same{pair(x, node("F", y)), pair(y, wide(impl.MaxNodes))})
	wantFullPairs(t, "one too many, in the second", []impl.Same{pair(y, wide(impl.MaxNodes)), pair(x, node("F", y))})
	wantSize("by its size, at once", []impl.Same{pair(x, wide(impl.MaxNodes))}, impl.MaxNodes, 2)
	half := wide((impl.MaxNodes - 2) / 2)
	wantSize("by its size, in two places", []impl.Same{pair(x, node("F", y, y)), pair(y, half)}, impl.MaxNodes-1, 3)
	wantSize("by its size, in three places", []impl.Same{pair(x, node("F", y, leaf("N", ""), y)), pair(y, half)}, impl.MaxNodes, 3)
	wantFullPairs(t, "one too many in three places", []impl.Same{pair(x, node("F", y, wide(2), y)), pair(y, half)})

	wantSize("by its depth", []impl.Same{pair(x, node("F", y)), pair(y, deep(impl.MaxDepth-1))}, impl.MaxDepth, impl.MaxDepth)
	wantFullPairs(t, "one too deep", []impl.Same{pair(x, node("F", y)), pair(y, deep(impl.MaxDepth))})
	wantFullPairs(t, "one too deep, in the second Kid", []impl.Same{pair(y, deep(impl.MaxDepth)), pair(x, node("F", leaf("N", ""), y))})
	wantSize("by its depth, at once", []impl.Same{pair(x, deep(impl.MaxDepth))}, impl.MaxDepth, impl.MaxDepth)
	// Step by step: each variable is one deeper than the next.
	steps := func(count int) []impl.Same {
		var list []impl.Same
		for i := range count {
			list = append(list, pair(variable("x"+strconv.Itoa(i)), node("F", variable("x"+strconv.Itoa(i+1)))))
		}
		return list
	}
	wantSize("by its depth, step by step", steps(impl.MaxDepth-1), impl.MaxDepth, impl.MaxDepth)
	wantFullPairs(t, "one too deep, step by step", steps(impl.MaxDepth))
	// A pair itself may be too large when it is Filled; the Binds are not.
	wantSize("Filled it is too large", []impl.Same{pair(node("F", x, x, x), node("F", y, y, y)), pair(y, half)}, impl.MaxNodes/2-1, 2)
	wantSize("Filled it is too deep", []impl.Same{pair(node("F", x), node("F", y)), pair(y, deep(impl.MaxDepth))}, impl.MaxDepth, impl.MaxDepth)
}

func TestAsManyPairsAsThereMayBe(t *testing.T) {
	one := pairs("(F x 1) = (F 2 y)")[0]
	wantUnified(t, "MaxPairs", slices.Repeat([]impl.Same{one}, impl.MaxPairs), "x=2", "y=1")
	noPairs(t, "one more", slices.Repeat([]impl.Same{one}, impl.MaxPairs+1))
	noPairs(t, "many more", slices.Repeat([]impl.Same{one}, 100000))
	part := pairs("1 = 2")[0]
	most := slices.Repeat([]impl.Same{part}, impl.MaxPairs)
	wantParted(t, "MaxPairs that part", most, 0)
	noPairs(t, "one more that parts", append(most, part))
	noPairs(t, "one more, and nothing in it", make([]impl.Same, impl.MaxPairs+1))
}

// So many pieces as there can be, in chains that are much deeper than a tree.
func TestPairsAsLargeAsTheyMayBe(t *testing.T) {
	each := impl.MaxNodes/2 - 1
	name := func(i int) impl.Tree { return variable("x" + strconv.Itoa(i)) }
	// (P x0 x1 ..) = (P (F x1) (F x2) ..): one chain through all of the pairs.
	chain := func(end int) []impl.Same {
		var list []impl.Same
		for i := range impl.MaxPairs {
			left, right := node("P"), node("P")
			for k := i * each; k < (i+1)*each; k++ {
				next := k + 1
				if next == impl.MaxPairs*each {
					next = end
				}
				left.Kids, right.Kids = append(left.Kids, name(k)), append(right.Kids, node("F", name(next)))
			}
			list = append(list, pair(left, right))
		}
		return list
	}
	wantFullPairs(t, "a long chain", chain(impl.MaxPairs*each))
	ring := chain(0)
	if binds, ok, code := impl.Unify(ring); ok || code != impl.OK || len(binds) != 0 {
		t.Error(ok, code)
	}
	if places, code := impl.Blame(ring); code != impl.OK || len(places) != impl.MaxPairs {
		t.Error(places, code)
	}
	// All variables are one, each is the next, from the last on.
	var same []impl.Same
	count := impl.MaxPairs * (impl.MaxNodes - 1)
	for i := range impl.MaxPairs {
		left, right := node("P"), node("P")
		for k := i * (impl.MaxNodes - 1); k < (i+1)*(impl.MaxNodes-1); k++ {
			left.Kids, right.Kids = append(left.Kids, name(count-k)), append(right.Kids, name(count-k-1))
		}
		same = append(same, pair(left, right))
	}
	binds, ok, code := impl.Unify(same)
	if !ok || code != impl.OK || len(binds) != count {
		t.Fatal(ok, code, len(binds))
	}
	first := "x" + strconv.Itoa(count)
	for _, b := range binds {
		if b.Name == first || !sameTree(b.Tree, variable(first)) {
			t.Fatal(b)
		}
	}
	same[impl.MaxPairs-1].Right.Kids[0] = leaf("N", "1")
	same[0].Left.Kids[0] = leaf("N", "2")
	places, code := impl.Blame(same)
	if code != impl.OK || len(places) != impl.MaxPairs {
		t.Error(places, code)
	}
	// So many Binds, each of a large tree.
	some, large := node("P"), node("P")
	for i := range impl.MaxNodes - 1 {
		some.Kids, large.Kids = append(some.Kids, name(i)), append(large.Kids, variable("y"))
	}
	binds, ok, code = impl.Unify([]impl.Same{pair(some, large), pair(variable("y"), wide(impl.MaxNodes))})
	if !ok || code != impl.OK || len(binds) != impl.MaxNodes {
		t.Fatal(ok, code, len(binds))
	}
	for _, b := range binds {
		if !sameTree(b.Tree, wide(impl.MaxNodes)) {
			t.Fatal(b.Name)
		}
	}
}

func TestPairsThatAreWrong(t *testing.T) {
	right := pairs("x = (F y)", "y = 1")
	parted := pairs("x = (F y)", "x = 1", "1 = 2")
	check := func(why string, wrong impl.Tree) {
		t.Helper()
		for _, list := range [][]impl.Same{nil, right, parted} {
			for i := range len(list) + 1 {
				noPairs(t, why, slices.Insert(slices.Clone(list), i, pair(wrong, variable("x"))))
				noPairs(t, why, slices.Insert(slices.Clone(list), i, pair(variable("x"), wrong)))
				noPairs(t, why, slices.Insert(slices.Clone(list), i, pair(wrong, wrong)))
			}
		}
	}
	for _, p := range wrongPatterns() {
		check(written(p), p)
	}
	for why, wrong := range wrongTrees() {
		check(why, wrong)
	}
	noPairs(t, "nothing in a pair", []impl.Same{{}})
	noPairs(t, "no pattern, and it would be too large", append(grown(20, "x", leaf("N", "1")), pair(variable("1"), variable("x"))))
	for _, name := range []string{"x", "Z", "a1", "a_", "Var", "Fun", strings.Repeat("x", impl.MaxName)} {
		binds, ok, code := checkUnify(t, []impl.Same{pair(variable(name), leaf("N", "1"))})
		if !ok || code != impl.OK || len(binds) != 1 || binds[0].Name != name {
			t.Error(name, bindsText(binds), ok, code)
		}
	}
	// Trees with any bytes in their Texts, as large and as deep as they may be.
	for _, x := range someTrees() {
		if slices.ContainsFunc(pathsOf(x), func(path []int) bool { return isVar(under(x, path)) }) {
			continue
		}
		if binds, ok, code := checkUnify(t, []impl.Same{pair(variable("x"), x), pair(x, variable("y")), pair(x, x)}); !ok || code != impl.OK || len(binds) != 2 {
			t.Error(ok, code)
		}
	}
}

// Nothing is written into what Unify and Blame are given, nor behind it, and nothing of it is in what they answer.
func TestUnifyAndBlameShareNothing(t *testing.T) {
	given := pairs("(F x y) = (F (G z (H 1)) x)", "w = (P x x (K u))", "(P u) = (P (K y))", "(K (K w)) = (K v)")
	list := make([]impl.Same, 0, len(given)+1)
	for _, one := range given {
		list = append(list, pair(roomy(one.Left), roomy(one.Right)))
	}
	list[:len(list)+1][len(list)] = pair(leaf("spare", ""), leaf("spare", ""))
	unchanged := func(why string) {
		t.Helper()
		if pairsText(list) != pairsText(given) || !sameTree(list[:len(list)+1][len(list)].Left, leaf("spare", "")) {
			t.Fatal(why, "changed what it was given")
		}
		for _, side := range sides(list) {
			if !sparesKept(side) {
				t.Fatal(why, "wrote behind what it was given")
			}
		}
	}
	binds, _, _ := checkUnify(t, list)
	unchanged("Unify")
	want := bindsText(binds)
	if len(binds) != 5 {
		t.Fatal(want)
	}
	// Each tree in each bind, spoilt, leaves all the others.
	for i := range binds {
		for _, path := range pathsOf(binds[i].Tree) {
			other, _, _ := impl.Unify(list)
			spoil(under(other[i].Tree, path))
			for k, b := range binds {
				for _, kept := range pathsOf(b.Tree) {
					if k == i && (begins(kept, path) || begins(path, kept)) {
						continue
					}
					if !sameTree(under(other[k].Tree, kept), under(b.Tree, kept)) {
						t.Fatal("two places share memory")
					}
				}
			}
			unchanged("spoiling a bind")
		}
	}
	if again, _, _ := impl.Unify(list); bindsText(again) != want {
		t.Error(bindsText(again))
	}
	list = append(list, roomyPairs(pairs("z = 1", "z = 2"))...)
	given = append(given, pairs("z = 1", "z = 2")...)
	list = append(list, pair(leaf("spare", ""), leaf("spare", "")))[:len(list)]
	places := checkBlame(t, list)
	unchanged("Blame")
	for i := range places[:cap(places)] {
		places[:cap(places)][i] = -7
	}
	unchanged("spoiling what Blame told")
	checkBlame(t, list)
}

func roomyPairs(list []impl.Same) []impl.Same {
	var copies []impl.Same
	for _, one := range list {
		copies = append(copies, pair(roomy(one.Left), roomy(one.Right)))
	}
	return copies
}
