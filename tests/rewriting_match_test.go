package tests

import (
	"math/rand"
	"slices"
	"strconv"
	"strings"
	"testing"

	"loop.example/g00037/impl"
)

func TestMatch(t *testing.T) {
	for _, x := range []struct {
		p, t  string
		fits  bool
		binds string
	}{
		// One variable is all of the tree, whatever that is.
		{`Var"x"`, `N"1"`, true, `x=N"1"`},
		{`Var"x"`, `(Add N"1" (F))`, true, `x=(Add N"1" (F))`},
		{`Var"x"`, `Var"x"`, true, `x=Var"x"`},
		{`Var"x"`, `Var"1"`, true, `x=Var"1"`},
		{`Var"A_9"`, `(Var)`, true, `A_9=(Var)`},
		// No variables: the tree itself alone.
		{`N"1"`, `N"1"`, true, ``},
		{`N"1"`, `N"2"`, false, ``},
		{`N"1"`, `M"1"`, false, ``},
		{`N""`, `(N)`, false, ``},
		{`(N)`, `N""`, false, ``},
		{`(Add)`, `(Add)`, true, ``},
		{`(Add)`, `(Add N"1")`, false, ``},
		{`(Add N"1")`, `(Add)`, false, ``},
		{`(Add N"1" (F))`, `(Add N"1" (F))`, true, ``},
		{`(Add N"1" (F))`, `(Add (F) N"1")`, false, ``},
		// Some, in the order in which they first stand.
		{`(Add Var"y" Var"x")`, `(Add N"1" (F))`, true, `y=N"1" x=(F)`},
		{`(Add (F Var"b") Var"a" Var"b" Var"c")`, `(Add (F N"1") N"2" N"1" N"3")`, true, `b=N"1" a=N"2" c=N"3"`},
		{`(Add Var"x" Var"y")`, `(Add N"1")`, false, ``},
		{`(Add Var"x")`, `(Add N"1" N"2")`, false, ``},
		{`(Add Var"x")`, `Add"x"`, false, ``},
		{`(Add Var"x")`, `(Sub N"1")`, false, ``},
		{`(Add Var"x" N"1")`, `(Add N"1" N"2")`, false, ``},
		// The same variable several times.
		{`(Add Var"x" Var"x")`, `(Add N"1" N"1")`, true, `x=N"1"`},
		{`(Add Var"x" Var"x")`, `(Add N"1" N"2")`, false, ``},
		{`(Add Var"x" Var"x")`, `(Add N"1" M"1")`, false, ``},
		{`(Add Var"x" Var"x")`, `(Add N"" (N))`, false, ``},
		{`(Add Var"x" Var"x")`, `(Add (F N"1" N"2") (F N"1" N"2"))`, true, `x=(F N"1" N"2")`},
		{`(Add Var"x" Var"x")`, `(Add (F N"1" N"2") (F N"1" N"3"))`, false, ``},
		{`(Add Var"x" Var"x")`, `(Add (F N"1" N"2") (F N"1"))`, false, ``},
		{`(Add Var"x" Var"x")`, `(Add (F N"1") (F N"1" N"2"))`, false, ``},
		{`(Add Var"x" (F Var"x"))`, `(Add (F) (F (F)))`, true, `x=(F)`},
		{`(Add Var"x" (F Var"x"))`, `(Add (F (F)) (F (F)))`, false, ``},
		{`(Add Var"x" Var"y" Var"x" Var"y")`, `(Add N"1" N"2" N"1" N"2")`, true, `x=N"1" y=N"2"`},
		{`(Add Var"x" Var"y" Var"x" Var"y")`, `(Add N"1" N"2" N"2" N"1")`, false, ``},
		{`(Add Var"x" Var"x" Var"x")`, `(Add N"1" N"1" N"2")`, false, ``},
		// Different ones may stand for the same.
		{`(Add Var"x" Var"y")`, `(Add N"1" N"1")`, true, `x=N"1" y=N"1"`},
		{`(Add Var"x" Var"X")`, `(Add N"1" N"2")`, true, `x=N"1" X=N"2"`},
		// A variable of the tree is a leaf like others.
		{`(Add Var"x" Var"x")`, `(Add Var"x" Var"x")`, true, `x=Var"x"`},
		{`(Add Var"x" Var"x")`, `(Add Var"x" Var"y")`, false, ``},
		{`(Add Var"x" Var"y")`, `(Add Var"y" Var"x")`, true, `x=Var"y" y=Var"x"`},
		{`N"1"`, `Var"x"`, false, ``},
		// A node is no variable, whatever its Name.
		{`(Var)`, `(Var)`, true, ``},
		{`(Var)`, `N"1"`, false, ``},
		{`(Var)`, `Var""`, false, ``},
		{`(Var Var"x")`, `(Var N"1")`, true, `x=N"1"`},
		{`(Var Var"x")`, `(Add N"1")`, false, ``},
		{`(Add (Var N"1") (Var N"1"))`, `(Add N"1" N"1")`, false, ``},
		{`var"x"`, `N"1"`, false, ``},
		{`var"x"`, `var"x"`, true, ``},
		{`Vars"x"`, `N"1"`, false, ``},
		{`Val"x"`, `N"1"`, false, ``},
		{`Hole""`, `N"1"`, false, ``},
	} {
		if binds, fits := checkMatch(t, tree(x.p), tree(x.t)); fits != x.fits || bindsText(binds) != x.binds {
			t.Errorf("%s and %s: %v, %s", x.p, x.t, fits, bindsText(binds))
		}
	}
}

// The first half of promise 17: patterns are made of trees, so that they often fit, and with few variables, so that these often stand twice.
func TestWhatMatchesIsThePatternFilled(t *testing.T) {
	r := rand.New(rand.NewSource(111))
	met := map[string]int{}
	for range 30000 {
		x := alikeTree(r, 1+r.Intn(5))
		p := somePatternOf(r, oneOf(r, x, x, x, alikeTree(r, 1+r.Intn(3))))
		binds, fits := checkMatch(t, p, x)
		stand := 0
		for _, path := range pathsOf(p) {
			stand += oneFor(isVar(under(p, path)))
		}
		switch {
		case fits && stand > len(binds):
			met["fits, one several times"]++
		case fits && stand > 0:
			met["fits"]++
		case fits:
			met["fits, no variable"]++
		case stand > 0:
			met["does not fit"]++
		}
		checkPlaces(t, p, x)
	}
	for _, kind := range []string{"fits, one several times", "fits", "fits, no variable", "does not fit"} {
		if met[kind] < 300 {
			t.Errorf("%s: only %d", kind, met[kind])
		}
	}
}

// What a pattern is Filled with, it Matches with.
func TestWhatIsFilledMatches(t *testing.T) {
	r := rand.New(rand.NewSource(112))
	several := 0
	for range 3000 {
		p := somePatternOf(r, alikeTree(r, 1+r.Intn(5)))
		binds := []impl.Bind{bind("z", alikeTree(r, 3)), bind("x", alikeTree(r, 3)), bind("y", alikeTree(r, 2))}
		want := fillBy(p, binds)
		wantFilled(t, p, binds, want)
		found, fits := checkMatch(t, p, want)
		if !fits {
			t.Fatalf("%s does not Match %s", written(want), written(p))
		}
		for _, b := range found {
			if x, _ := boundTo(binds, b.Name); !sameTree(x, b.Tree) {
				t.Fatalf("%s is %s", b.Name, written(b.Tree))
			}
		}
		several += oneFor(len(found) > 1)
	}
	if several < 300 {
		t.Errorf("only %d had several variables", several)
	}
}

func TestMatchOfLargeTrees(t *testing.T) {
	for _, x := range someTrees() {
		checkMatch(t, variable("x"), x)
		checkMatch(t, node("n", variable("x")), x)
		if !slices.ContainsFunc(pathsOf(x), func(path []int) bool { return isVar(under(x, path)) }) {
			checkMatch(t, x, x)
		}
	}
	// As many variables as a pattern can have, each another one, and all of them one.
	p, one, x := node("n"), node("n"), node("n")
	for i := range impl.MaxNodes - 1 {
		p.Kids = append(p.Kids, variable("x"+strconv.Itoa(i)))
		one.Kids = append(one.Kids, variable("x"))
		x.Kids = append(x.Kids, leaf("N", strconv.Itoa(i)))
	}
	if binds, fits := checkMatch(t, p, x); !fits || len(binds) != impl.MaxNodes-1 {
		t.Error(fits, len(binds))
	}
	if _, fits := checkMatch(t, one, x); fits {
		t.Error("one variable is several trees")
	}
	if binds, fits := checkMatch(t, one, wide(impl.MaxNodes)); !fits || len(binds) != 1 {
		t.Error(fits, len(binds))
	}
	// A variable as deep as it can stand.
	low := variable("x")
	for range impl.MaxDepth - 1 {
		low = node("n", low)
	}
	if binds, fits := checkMatch(t, low, deep(impl.MaxDepth)); !fits || bindsText(binds) != `x=a""` {
		t.Error(fits, bindsText(binds))
	}
	if _, fits := checkMatch(t, low, deep(impl.MaxDepth-1)); fits {
		t.Error("a tree that ends too early")
	}
}

// wrongPatterns are right trees that are none.
func wrongPatterns() []impl.Tree {
	var wrong []impl.Tree
	for _, text := range []string{"", "1", "1x", "_", "_x", "x-y", "x y", " x", "x ", "x\n", "x\x00", "é", "x\xff", "\"", strings.Repeat("x", impl.MaxName+1), strings.Repeat("x", impl.MaxLeaf)} {
		p := variable(text)
		wrong = append(wrong, p, node("n", p), node("n", variable("x"), node("Var", leaf("a", ""), p)))
	}
	return wrong
}

func TestPatternsThatAreNone(t *testing.T) {
	x := tree(`(n Var"x" (Var a"" N"1"))`)
	for _, p := range wrongPatterns() {
		if !impl.TreeOK(p) {
			t.Fatal(written(p))
		}
		noMatch(t, written(p), p, x)
		noMatch(t, written(p)+" and itself", p, p)
		noFill(t, written(p), p, []impl.Bind{bind("x", x)}, impl.ErrBad)
		// As a tree it is one.
		checkMatch(t, variable("x"), p)
		checkPlaces(t, node("n", variable("x")), p)
		wantFilled(t, node("n", variable("x")), []impl.Bind{bind("x", p)}, node("n", p))
	}
	for _, name := range []string{"x", "Z", "a1", "a_", "Var", "all", "id", strings.Repeat("x", impl.MaxName)} {
		if binds, fits := checkMatch(t, variable(name), x); !fits || len(binds) != 1 || binds[0].Name != name {
			t.Error(name, binds, fits)
		}
	}
	for why, wrong := range wrongTrees() {
		noMatch(t, why+", as a pattern", wrong, x)
		noMatch(t, why+", as a tree", variable("x"), wrong)
		noMatch(t, why+", as a tree that could not match", leaf("z", ""), wrong)
		noMatch(t, why+", as both", wrong, wrong)
		noFill(t, why, wrong, nil, impl.ErrBad)
		noFill(t, why+", with a bind", wrong, []impl.Bind{bind("x", x)}, impl.ErrBad)
	}
}

func TestFill(t *testing.T) {
	f, one := node("F"), leaf("N", "1")
	for _, x := range []struct {
		p     string
		binds []impl.Bind
		want  string
	}{
		{`Var"x"`, []impl.Bind{bind("x", f)}, `(F)`},
		{`Var"x"`, []impl.Bind{bind("x", variable("x"))}, `Var"x"`},
		{`Var"x"`, []impl.Bind{bind("x", variable(""))}, `Var""`},
		{`N"1"`, nil, `N"1"`},
		{`N"x"`, []impl.Bind{bind("x", f)}, `N"x"`},
		{`(N)`, nil, `(N)`},
		{`(Var)`, nil, `(Var)`},
		{`(Var Var"x" (Var))`, []impl.Bind{bind("x", f)}, `(Var (F) (Var))`},
		{`(A Var"x" Var"x")`, []impl.Bind{bind("y", f), bind("x", one)}, `(A N"1" N"1")`},
		{`(A Var"x" (B Var"y") Var"x")`, []impl.Bind{bind("y", f), bind("x", one)}, `(A N"1" (B (F)) N"1")`},
		// What is put in is not filled again.
		{`(A Var"x" Var"y")`, []impl.Bind{bind("x", variable("y")), bind("y", variable("x"))}, `(A Var"y" Var"x")`},
		{`(A Var"x")`, []impl.Bind{bind("x", variable("z"))}, `(A Var"z")`},
		// Some that nobody asks for.
		{`(A)`, []impl.Bind{bind("a", f), bind("b", one)}, `(A)`},
		{`(A Var"b")`, []impl.Bind{bind("a", f), bind("b", one), bind("B", f), bind("bb", f)}, `(A N"1")`},
	} {
		wantFilled(t, tree(x.p), x.binds, tree(x.want))
		if !sameTree(fillBy(tree(x.p), x.binds), tree(x.want)) {
			t.Error("the model fills otherwise:", x.p)
		}
	}
	// So many that nobody asks for, and trees as large as they can be among them.
	var many []impl.Bind
	for i := range 5000 {
		many = append(many, bind("x"+strconv.Itoa(i), oneOf(rand.New(rand.NewSource(int64(i))), f, one)))
	}
	many[7].Tree = wide(impl.MaxNodes)
	wantFilled(t, node("A", variable("x4999"), variable("x8")), many, node("A", many[4999].Tree, many[8].Tree))
	wantFilled(t, variable("x7"), many, wide(impl.MaxNodes))
}

func TestFillIsUndefined(t *testing.T) {
	f := node("F")
	for _, x := range []struct {
		p     string
		binds []impl.Bind
	}{
		{`Var"z"`, nil},
		{`Var"z"`, []impl.Bind{}},
		{`Var"z"`, []impl.Bind{bind("x", f)}},
		{`Var"z"`, []impl.Bind{bind("Z", f), bind("zz", f)}},
		{`(A Var"x" Var"y")`, []impl.Bind{bind("x", f)}},
		{`(A Var"x" Var"y")`, []impl.Bind{bind("y", f)}},
		{`(A Var"x" (B (C Var"x" Var"y")))`, []impl.Bind{bind("x", variable("y"))}},
	} {
		noFill(t, x.p, tree(x.p), x.binds, impl.ErrUndef)
	}
	// ErrUndef comes ahead of ErrFull, and ErrBad ahead of both.
	large := node("A", variable("x"), variable("x"), variable("z"))
	binds := []impl.Bind{bind("x", wide(impl.MaxNodes))}
	noFill(t, "undefined and too large", large, binds, impl.ErrUndef)
	noFill(t, "too large", large, append(binds, bind("z", f)), impl.ErrFull)
	noFill(t, "undefined, too large, and a wrong bind", large, append(binds, bind("", f)), impl.ErrBad)
	noFill(t, "too large, and a Name twice", large, append(binds, bind("z", f), bind("x", f)), impl.ErrBad)
	noFill(t, "undefined, and no pattern", node("A", variable("z"), variable("1")), binds, impl.ErrBad)
}

func TestBindsThatAreWrong(t *testing.T) {
	f := node("F")
	right := []impl.Bind{bind("x", f), bind("y", f)}
	patterns := []impl.Tree{variable("x"), node("A", variable("x"), variable("y")), node("A"), variable("z")}
	for _, p := range patterns {
		for _, name := range []string{"", "1", "1x", "_x", "x-", "x y", " x", "x ", "x\n", "\x00", "é", "x\xff", strings.Repeat("x", impl.MaxName+1), strings.Repeat("x", 10000)} {
			for i := range len(right) + 1 {
				noFill(t, "a bind called "+strconv.Quote(name), p, slices.Insert(slices.Clone(right), i, bind(name, f)), impl.ErrBad)
			}
		}
		for why, wrong := range wrongTrees() {
			for i := range len(right) + 1 {
				noFill(t, why, p, slices.Insert(slices.Clone(right), i, bind("w", wrong)), impl.ErrBad)
			}
		}
		for i := range len(right) + 1 {
			noFill(t, "a Name twice, the same tree", p, slices.Insert(slices.Clone(right), i, bind("x", f)), impl.ErrBad)
			noFill(t, "a Name twice, another tree", p, slices.Insert(slices.Clone(right), i, bind("y", leaf("N", ""))), impl.ErrBad)
		}
		noFill(t, "nothing in a bind", p, []impl.Bind{{}}, impl.ErrBad)
		noFill(t, "many binds with one Name", p, slices.Repeat(right, 10000), impl.ErrBad)
	}
	wantFilled(t, variable(strings.Repeat("x", impl.MaxName)), []impl.Bind{bind(strings.Repeat("x", impl.MaxName), f)}, f)
	wantFilled(t, variable("x"), []impl.Bind{bind("all", f), bind("X", f), bind("x", f), bind("xx", f), bind("x_", f)}, f)
}

// A right tree's limits, met exactly and passed by one.
func TestFilledAsFarAsItMayBe(t *testing.T) {
	two := node("A", variable("x"), variable("x"))
	x := wide((impl.MaxNodes - 1) / 2)
	wantFilled(t, two, []impl.Bind{bind("x", x)}, node("A", x, x))
	three := node("A", variable("x"), variable("y"), variable("x"))
	wantFilled(t, three, []impl.Bind{bind("x", x), bind("y", leaf("N", ""))}, node("A", x, leaf("N", ""), x))
	noFill(t, "one too many", three, []impl.Bind{bind("x", x), bind("y", wide(2))}, impl.ErrFull)
	wantFilled(t, node("A", variable("x")), []impl.Bind{bind("x", wide(impl.MaxNodes-1))}, node("A", wide(impl.MaxNodes-1)))
	noFill(t, "one too many in one", node("A", variable("x")), []impl.Bind{bind("x", wide(impl.MaxNodes))}, impl.ErrFull)
	wantFilled(t, variable("x"), []impl.Bind{bind("x", wide(impl.MaxNodes))}, wide(impl.MaxNodes))

	wantFilled(t, node("n", variable("x")), []impl.Bind{bind("x", deep(impl.MaxDepth-1))}, deep(impl.MaxDepth))
	noFill(t, "one too deep", node("n", variable("x")), []impl.Bind{bind("x", deep(impl.MaxDepth))}, impl.ErrFull)
	noFill(t, "one too deep, in the last", node("n", variable("y"), node("n", variable("x"))), []impl.Bind{bind("x", deep(impl.MaxDepth-1)), bind("y", deep(impl.MaxDepth-1))}, impl.ErrFull)
	wantFilled(t, variable("x"), []impl.Bind{bind("x", deep(impl.MaxDepth))}, deep(impl.MaxDepth))
	low := variable("x")
	for range impl.MaxDepth - 1 {
		low = node("n", low)
	}
	wantFilled(t, low, []impl.Bind{bind("x", leaf("a", ""))}, deep(impl.MaxDepth))
	noFill(t, "one too deep, from below", low, []impl.Bind{bind("x", deep(2))}, impl.ErrFull)

	// What would have a million trees.
	all := node("A")
	for range impl.MaxNodes - 1 {
		all.Kids = append(all.Kids, variable("x"))
	}
	noFill(t, "far too many", all, []impl.Bind{bind("x", wide(impl.MaxNodes))}, impl.ErrFull)
	wantFilled(t, all, []impl.Bind{bind("x", leaf("k", ""))}, fillBy(all, []impl.Bind{bind("x", leaf("k", ""))}))
	noFill(t, "two in each", all, []impl.Bind{bind("x", wide(2))}, impl.ErrFull)
}

func TestPlaces(t *testing.T) {
	for _, x := range []struct {
		p, t string
		want [][]int
	}{
		{`Var"x"`, `N"1"`, [][]int{{}}},
		{`Var"x"`, `(A (B N"1") N"2")`, [][]int{{}, {0}, {0, 0}, {1}}},
		{`N"1"`, `N"2"`, nil},
		{`N"1"`, `(A N"1" (B N"2" N"1") N"1")`, [][]int{{0}, {1, 1}, {2}}},
		{`(Add Var"x" Var"y")`, `(Add (F (Add (G) (G))) (Add (G) (G)))`, [][]int{{}, {0, 0}, {1}}},
		{`(Add Var"x" Var"x")`, `(Add (F (Add (G) (G))) (Add (G) (F)))`, [][]int{{0, 0}}},
		{`(A Var"x")`, `(A (A (A (A))))`, [][]int{{}, {0}, {0, 0}}},
		{`(A)`, `(A (A (A (A))))`, [][]int{{0, 0, 0}}},
		{`(Var)`, `(A (Var) Var"x" (Var N"1"))`, [][]int{{0}}},
		{`Z"9"`, `(A (Var) Var"x" (Var N"1"))`, nil},
	} {
		if places := checkPlaces(t, tree(x.p), tree(x.t)); !slices.EqualFunc(places, x.want, slices.Equal[[]int]) {
			t.Errorf("%s in %s: %v", x.p, x.t, places)
		}
	}
	// A path leads to what Matches.
	x := tree(`(Add (F (Add (G) (G))) (Add (G) (G)))`)
	p := tree(`(Add Var"x" Var"x")`)
	for _, path := range checkPlaces(t, p, x) {
		at, code := impl.TreeAt(x, path)
		if _, fits := checkMatch(t, p, at); !fits || code != impl.OK {
			t.Error(path, written(at))
		}
	}
	for _, x := range []impl.Tree{wide(impl.MaxNodes), deep(impl.MaxDepth)} {
		if places := checkPlaces(t, variable("x"), x); len(places) != len(pathsOf(x)) {
			t.Error(len(places))
		}
		checkPlaces(t, node("n", variable("x")), x)
		checkPlaces(t, leaf("k", ""), x)
		checkPlaces(t, x, x)
	}
}

// Nothing is written into what Match, Fill and Places are given, nor behind it, and nothing of it is in what they answer.
func TestMatchFillAndPlacesShareNothing(t *testing.T) {
	p := roomy(tree(`(A Var"x" (B Var"y" Var"x") Var"y" (C N"1"))`))
	x := roomy(tree(`(A (F N"2" (G)) (B (H N"3") (F N"2" (G))) (H N"3") (C N"1"))`))
	pBefore, xBefore := copyTree(p), copyTree(x)
	unchanged := func(why string) {
		t.Helper()
		if !sameTree(p, pBefore) || !sameTree(x, xBefore) || !sparesKept(p) || !sparesKept(x) {
			t.Fatal(why, "changed what it was given")
		}
	}
	binds, _ := checkMatch(t, p, x)
	checkPlaces(t, p, x)
	unchanged("Match")
	// One bind spoilt leaves the other.
	spoil(binds[0].Tree)
	unchanged("spoiling a bind")
	if bindsText(binds[1:]) != `y=(H N"3")` {
		t.Error(bindsText(binds))
	}

	given := []impl.Bind{bind("x", roomy(tree(`(F N"2" (G))`))), bind("y", roomy(tree(`(H N"3")`)))}
	filled, _ := impl.Fill(p, given)
	again := copyTree(filled)
	if !sameTree(filled, xBefore) {
		t.Fatal(written(filled))
	}
	// The tree of a variable that stands twice is there twice.
	spoil(filled.Kids[0])
	if !sameTree(under(filled, []int{1, 1}), under(again, []int{1, 1})) || !sameTree(filled.Kids[1], again.Kids[1]) {
		t.Error("two places of a variable share memory")
	}
	spoil(filled)
	unchanged("spoiling what was Filled")
	if bindsText(given) != `x=(F N"2" (G)) y=(H N"3")` || !sparesKept(given[0].Tree) || !sparesKept(given[1].Tree) {
		t.Error("Fill changed its binds:", bindsText(given))
	}

	places, _ := impl.Places(variable("x"), x)
	want := pathsOf(x)
	for i, path := range places {
		for k := range path[:cap(path)] {
			path[:cap(path)][k] = -7
		}
		for k, other := range places[i+1:] {
			if !slices.Equal(other, want[i+1+k]) {
				t.Fatal("two paths share memory")
			}
		}
	}
	unchanged("Places")
}
