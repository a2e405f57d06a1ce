package tests

import (
	"fmt"
	"math/rand"
	"slices"
	"testing"

	"loop.example/g00037/impl"
)

func countingShapes() []impl.Shape {
	return []impl.Shape{leafShape("Zero"), leafShape("Yes"), leafShape("No"), nodeShape("Succ", 1), nodeShape("Pred", 1), nodeShape("IsZero", 1), nodeShape("If", 3)}
}

// shapedAs is a Sem with other Shapes.
func shapedAs(s impl.Sem, shapes ...impl.Shape) impl.Sem {
	s.Shapes = shapes
	return s
}

func TestWitnessesOfCounting(t *testing.T) {
	s := counting()
	for size := 1; size <= impl.MaxSize; size++ {
		wantWitness(t, "numbers", s, size, 0, impl.Tree{}, impl.OK)
	}
	yes := shapedAs(s, leafShape("Yes"), nodeShape("Succ", 1), nodeShape("Pred", 1))
	wantWitness(t, "a question for a number, too large", yes, 1, 0, impl.Tree{}, impl.OK)
	wantWitness(t, "a question for a number", yes, 2, impl.WtStuck, tree(`(Pred Yes"")`), impl.OK)
	wantWitness(t, "a question for a number, the first", yes, impl.MaxSize, impl.WtStuck, tree(`(Pred Yes"")`), impl.OK)
	choice := shapedAs(s, leafShape("Zero"), leafShape("No"), nodeShape("If", 3))
	wantWitness(t, "a number for a question", choice, 5, impl.WtStuck, tree(`(If Zero"" Zero"" Zero"")`), impl.OK)
	choice = shapedAs(s, leafShape("No"), leafShape("Yes"), nodeShape("If", 3))
	wantWitness(t, "questions alone", choice, impl.MaxSize, 0, impl.Tree{}, impl.OK)
	both := s
	both.Rules = append(copyRwRules(s.Rules), rule("two", `(Pred (Succ Zero""))`, `Zero""`))
	wantWitness(t, "two Rules for one", both, 2, 0, impl.Tree{}, impl.OK)
	wantWitness(t, "two Rules for one", both, 3, impl.WtTwice, tree(`(Pred (Succ Zero""))`), impl.OK)
	goesOn := s
	goesOn.Values = append(slices.Clone(s.Values), tree(`(Pred (Succ Var"n"))`))
	wantWitness(t, "a value that goes on", goesOn, 2, 0, impl.Tree{}, impl.OK)
	wantWitness(t, "a value that goes on", goesOn, 5, impl.WtValue, tree(`(Pred (Succ Zero""))`), impl.OK)
	loose := s
	loose.Rules = copyRwRules(s.Rules)
	loose.Rules[3] = rule("less", `(Pred (Succ Var"n"))`, `Var"n"`)
	wantWitness(t, "a Var in the place of a Val", loose, 3, 0, impl.Tree{}, impl.OK)
	wantWitness(t, "a Var in the place of a Val", loose, 4, impl.WtTwice, tree(`(Pred (Succ (Pred Zero"")))`), impl.OK)
}

func TestWitnessWithoutAny(t *testing.T) {
	s := counting()
	for why, shapes := range map[string][]impl.Shape{
		"no Shapes":             nil,
		"no leaf":               {nodeShape("Succ", 1), nodeShape("Pred", 1)},
		"no leaf, one Kid":      {nodeShape("F", 1)},
		"no leaf, two Kids":     {nodeShape("F", 2)},
		"no leaf, three Kids":   {nodeShape("F", 3)},
		"no leaf, of all kinds": {nodeShape("F", 3), nodeShape("F", 1), nodeShape("F", 2)},
		"as many as can be":     slices.Repeat([]impl.Shape{nodeShape("F", 3), nodeShape("F", 1), nodeShape("F", 2)}, impl.MaxShapes/3),
	} {
		for size := 1; size <= impl.MaxSize; size++ {
			wantWitness(t, why, shapedAs(s, shapes...), size, 0, impl.Tree{}, impl.OK)
		}
	}
	// A node without Kids stands where leaves can stand, and a leaf is another tree than it.
	wantWitness(t, "a node without Kids", shapedAs(s, nodeShape("Zero", 0)), 1, impl.WtStuck, node("Zero"), impl.OK)
	wantWitness(t, "a leaf ahead of it", shapedAs(s, leafShape("Zero"), nodeShape("Zero", 0)), 1, impl.WtStuck, node("Zero"), impl.OK)
	wantWitness(t, "with a Text", shapedAs(s, impl.Shape{Name: "Zero", Text: "0", Leaf: true}), 1, impl.WtStuck, leaf("Zero", "0"), impl.OK)
	wantWitness(t, "within", shapedAs(s, leafShape("Zero"), nodeShape("Succ", 1), nodeShape("None", 0)), 1, impl.WtStuck, node("None"), impl.OK)
}

func TestSizesOfWitness(t *testing.T) {
	s := shapedAs(impl.Sem{Values: treesOf(`a""`, `(F Val"x")`)}, leafShape("a"), nodeShape("F", 1))
	// One that is told badly, of each size up to the largest.
	x := leaf("a", "")
	for size := 1; size <= impl.MaxSize; size++ {
		s.Rules = []impl.RwRule{{Name: "r", Left: x, Right: leaf("b", "")}}
		for at := 1; at <= impl.MaxSize; at++ {
			if at < size {
				wantWitness(t, "too small", s, at, 0, impl.Tree{}, impl.OK)
			} else {
				wantWitness(t, "large enough", s, at, impl.WtValue, x, impl.OK)
			}
		}
		x = node("F", x)
	}
	for _, size := range []int{0, -1, impl.MaxSize + 1, 1<<63 - 1, -1 << 63} {
		noWitness(t, "no size", s, size, impl.ErrBad)
		noWitness(t, "no size, no Shapes", impl.Sem{}, size, impl.ErrBad)
	}
}

// Each of two trees is told alone, and of both the one that is ahead.
func TestOrderOfWitness(t *testing.T) {
	for _, x := range []struct {
		shapes []impl.Shape
		size   int
		order  []string
	}{
		{[]impl.Shape{nodeShape("F", 1), leafShape("a"), nodeShape("P", 2)}, 5, []string{
			`a""`, `(F a"")`, `(F (F a""))`, `(P a"" a"")`,
			`(F (F (F a"")))`, `(F (P a"" a""))`, `(P a"" (F a""))`, `(P (F a"") a"")`,
			`(F (F (F (F a""))))`, `(F (F (P a"" a"")))`, `(F (P a"" (F a"")))`, `(F (P (F a"") a""))`,
			`(P a"" (F (F a"")))`, `(P a"" (P a"" a""))`, `(P (F a"") (F a""))`, `(P (F (F a"")) a"")`, `(P (P a"" a"") a"")`,
		}},
		{[]impl.Shape{leafShape("b"), nodeShape("P", 2), leafShape("a")}, 3, []string{
			`b""`, `a""`, `(P b"" b"")`, `(P b"" a"")`, `(P a"" b"")`, `(P a"" a"")`,
		}},
		{[]impl.Shape{nodeShape("T", 3), nodeShape("F", 1), nodeShape("E", 0), leafShape("a")}, 5, []string{
			`(E)`, `a""`, `(F (E))`, `(F a"")`, `(F (F (E)))`, `(F (F a""))`,
			`(T (E) (E) (E))`, `(T (E) (E) a"")`, `(T (E) a"" (E))`, `(T (E) a"" a"")`, `(T a"" (E) (E))`, `(T a"" (E) a"")`, `(T a"" a"" (E))`, `(T a"" a"" a"")`,
			`(F (F (F (E))))`, `(F (F (F a"")))`,
			`(T (E) (E) (F (E)))`, `(T (E) (E) (F a""))`, `(T (E) a"" (F (E)))`, `(T (E) a"" (F a""))`, `(T (E) (F (E)) (E))`, `(T (E) (F (E)) a"")`, `(T (E) (F a"") (E))`, `(T (E) (F a"") a"")`,
			`(T a"" (E) (F (E)))`, `(T a"" (E) (F a""))`, `(T a"" a"" (F (E)))`, `(T a"" a"" (F a""))`, `(T a"" (F (E)) (E))`, `(T a"" (F (E)) a"")`, `(T a"" (F a"") (E))`, `(T a"" (F a"") a"")`,
			`(T (F (E)) (E) (E))`, `(T (F (E)) (E) a"")`, `(T (F (E)) a"" (E))`, `(T (F (E)) a"" a"")`, `(T (F a"") (E) (E))`, `(T (F a"") (E) a"")`, `(T (F a"") a"" (E))`, `(T (F a"") a"" a"")`,
			`(F (T (E) (E) (E)))`,
		}},
	} {
		s := shapedAs(impl.Sem{Values: treesOf(`a""`, `b""`, `(E)`, `(F Var"x")`, `(P Var"x" Var"y")`, `(T Var"x" Var"y" Var"z")`)}, x.shapes...)
		told := func(texts ...string) string {
			s.Rules = nil
			for i, text := range texts {
				s.Rules = append(s.Rules, rule(fmt.Sprint("r", i), text, `a""`))
			}
			badly, code := impl.Witness(s, x.size)
			return fmt.Sprint(badly.Kind, " ", code, " ", written(badly.Tree))
		}
		for i, first := range x.order {
			want := fmt.Sprint(impl.WtValue, " ", impl.OK, " ", first)
			if got := told(first); got != want {
				t.Errorf("%s alone: %s", first, got)
			}
			for _, second := range x.order[i+1:] {
				if got := told(second, first); got != want {
					t.Errorf("%s and %s: %s", first, second, got)
				}
			}
		}
	}
}

func TestManyTreesAreMade(t *testing.T) {
	many := func(leaves int, one int, two int, three int) impl.Sem {
		s := impl.Sem{Values: treesOf(`(One Var"x")`, `(Two Var"x" Var"y")`, `(Three Var"x" Var"y" Var"z")`)}
		for i := range leaves {
			s.Shapes = append(s.Shapes, impl.Shape{Name: "k", Text: fmt.Sprint(i), Leaf: true})
			s.Values = append(s.Values, leaf("k", fmt.Sprint(i)))
		}
		for kids, count := range []int{one, two, three} {
			for i := range count {
				name := []string{"One", "Two", "Three"}[kids]
				if i > 0 {
					name = fmt.Sprint(name, i)
					s.Values = append(s.Values, node(name, treesOf(`Var"x"`, `Var"y"`, `Var"z"`)[:kids+1]...))
				}
				s.Shapes = append(s.Shapes, nodeShape(name, kids+1))
			}
		}
		return s
	}
	for _, x := range []struct {
		s    impl.Sem
		size int
		made int
	}{
		{many(3, 0, 3, 2), 6, impl.MaxMade},
		{many(1, 2, 3, 1), 7, impl.MaxMade},
		{many(1, 1, 5, 5), 7, 2982},
		{many(4, 2, 0, 5), 5, 3004},
		{many(9, 0, 1, 2), 5, 3006},
		{many(1, 2, 1, 8), 7, 3009},
	} {
		all := shapedBy(x.s.Shapes, x.size)
		if len(all) != x.made {
			t.Fatalf("%s: %d are made up to %d, and should be %d", semText(x.s), len(all), x.size, x.made)
		}
		if len(all) > impl.MaxMade {
			noWitness(t, "too many", x.s, x.size, impl.ErrFull)
			x.s.Values = x.s.Values[1:]
			noWitness(t, "too many, and some are told badly", x.s, x.size, impl.ErrFull)
			noWitness(t, "not too many of fewer trees", impl.Sem{Values: x.s.Values, Shapes: x.s.Shapes[:1]}, x.size, impl.OK)
			continue
		}
		noWitness(t, "just not too many", x.s, x.size, impl.OK)
		// The last of them is gone through, too.
		last := all[len(all)-1].tree
		x.s.Rules = []impl.RwRule{{Name: "r", Left: last, Right: leaf("a", "")}}
		if badly, code := impl.Witness(x.s, x.size); badly.Kind != impl.WtValue || !sameTree(badly.Tree, last) || code != impl.OK {
			t.Errorf("the last of all: %d %s, %d and should be %s", badly.Kind, written(badly.Tree), code, written(last))
		}
	}
	most := impl.Sem{}
	for i := range impl.MaxShapes {
		most.Shapes = append(most.Shapes, nodeShape(fmt.Sprint("n", i), i%4))
	}
	for size := 1; size <= impl.MaxSize; size++ {
		checkFull := impl.OK
		if size > 4 {
			checkFull = impl.ErrFull
		}
		if badly, code := impl.Witness(most, size); code != checkFull || (code == impl.OK) != (badly.Kind == impl.WtStuck) {
			t.Errorf("as many Shapes as can be, up to %d: %d, %d", size, badly.Kind, code)
		}
	}
	// Shapes that are alike make each their own.
	alike := impl.Sem{Values: treesOf(`a""`, `(F Var"x")`)}
	alike.Shapes = append(slices.Repeat([]impl.Shape{nodeShape("F", 1)}, 3), leafShape("a"))
	noWitness(t, "1 + 3 + .. + 3 to the 6 trees", alike, impl.MaxSize, impl.OK)
	alike.Shapes = slices.Repeat(alike.Shapes, 2)
	noWitness(t, "much more of them", alike, impl.MaxSize, impl.ErrFull)
}

func TestWrongComesAheadOfFull(t *testing.T) {
	s := shapedAs(counting(), countingShapes()...)
	noWitness(t, "too many", s, impl.MaxSize, impl.ErrFull)
	noWitness(t, "too many, of no size", s, impl.MaxSize+1, impl.ErrBad)
	s.Values = treesOf(`Val"x"`)
	noWitness(t, "too many, of no Sem", s, impl.MaxSize, impl.ErrBad)
	noWitness(t, "of no Sem, and no size", s, 0, impl.ErrBad)
}

func TestLess(t *testing.T) {
	stuck := impl.Sem{Values: treesOf(`a""`, `b""`, `c""`, `d""`)}
	for _, x := range treesOf(`a""`, `d""`) {
		if less, kind, code := impl.Less(stuck, x); !isZero(less) || kind != 0 || code != impl.ErrNone {
			t.Errorf("a value: %s, %d, %d", written(less), kind, code)
		}
	}
	wantLess(t, "a leaf", stuck, tree(`u""`), tree(`u""`), impl.WtStuck)
	wantLess(t, "a node without Kids", stuck, tree(`(F)`), tree(`(F)`), impl.WtStuck)
	wantLess(t, "no Kid is told badly", stuck, tree(`(F a"" b"")`), tree(`(F a"" b"")`), impl.WtStuck)
	wantLess(t, "the first Kid ahead of the second", stuck, tree(`(F u"" v"")`), tree(`u""`), impl.WtStuck)
	wantLess(t, "the first Kid that is told badly", stuck, tree(`(F a"" v"" w"")`), tree(`v""`), impl.WtStuck)
	wantLess(t, "a tree ahead of those within it", stuck, tree(`(F (G a"" b"") (H c"" d""))`), tree(`(G a"" b"")`), impl.WtStuck)
	wantLess(t, "the first tree, not the smallest", stuck, tree(`(F (G a"" b"" c"") u"")`), tree(`(G a"" b"" c"")`), impl.WtStuck)
	wantLess(t, "several times", stuck, tree(`(F a"" (F b"" (F (F c"" (F u"")))))`), tree(`u""`), impl.WtStuck)
	// Nodes that are values themselves: what is around them stays, and they come to be less.
	held := impl.Sem{Values: treesOf(`a""`, `b""`, `(G Var"x" Var"y")`)}
	wantLess(t, "within", held, tree(`(F (G a"" b"") b"")`), tree(`(F a"" b"")`), impl.WtStuck)
	if less, kind, code := impl.Less(held, tree(`(G (F a"") u"")`)); !isZero(less) || kind != 0 || code != impl.ErrNone {
		t.Errorf("a value around what is stuck: %s, %d, %d", written(less), kind, code)
	}
	wantLess(t, "at several depths", held, tree(`(F (G (G a"" b"") a"") (G b"" (G a"" a"")))`), tree(`(F a"" b"")`), impl.WtStuck)
}

func TestLessOfEachKind(t *testing.T) {
	s := impl.Sem{
		Rules:    []impl.RwRule{rule("r", `r""`, `a""`), rule("v", `(V Var"x")`, `Var"x"`)},
		Values:   treesOf(`a""`, `(V Var"x")`),
		Contexts: treesOf(`(P Hole"" Var"y")`, `(P Var"x" Hole"")`),
	}
	wantLess(t, "twice", s, tree(`(P (P r"" a"") (P a"" r""))`), tree(`(P r"" r"")`), impl.WtTwice)
	wantLess(t, "a Kid that is stuck is none", s, tree(`(P (F a"") (P r"" r""))`), tree(`(P r"" r"")`), impl.WtTwice)
	wantLess(t, "a Kid that is told twice ahead of one that has one", s, tree(`(P (P r"" (P r"" r"")) r"")`), tree(`(P r"" r"")`), impl.WtTwice)
	wantLess(t, "stuck, with a Kid that is a value that goes on", s, tree(`(F (V a"") a"")`), tree(`(F a"" a"")`), impl.WtStuck)
	wantLess(t, "stuck, with a Kid that is told twice", s, tree(`(F (P r"" r""))`), tree(`(F r"")`), impl.WtStuck)
	wantLess(t, "a value that goes on", s, tree(`(V (V (P r"" (F a""))))`), tree(`(V r"")`), impl.WtValue)
	wantLess(t, "a value that goes on, around one that is stuck", s, tree(`(V (F a""))`), tree(`(V a"")`), impl.WtValue)
	for _, x := range treesOf(`a""`, `r""`, `(P r"" a"")`, `(P (F r"" r"") r"")`) {
		if less, kind, code := impl.Less(s, x); !isZero(less) || kind != 0 || code != impl.ErrNone {
			t.Errorf("%s is not told badly: %s, %d, %d", written(x), written(less), kind, code)
		}
		checkLess(t, s, x)
	}
}

// Large trees, of which little can leave at a time.
func TestLessOfLargeTrees(t *testing.T) {
	values := impl.Sem{Values: treesOf(`a""`, `(G Val"x")`)}
	want := node("W", slices.Repeat(treesOf(`a""`), 333)...)
	if less, kind, code := impl.Less(values, node("W", slices.Repeat(treesOf(`(G (G a""))`), 333)...)); !sameTree(less, want) || kind != impl.WtStuck || code != impl.OK {
		t.Errorf("a wide one: %d Kids, %d, %d", len(less.Kids), kind, code)
	}
	both := impl.Sem{Rules: []impl.RwRule{rule("r", `r""`, `a""`)}, Contexts: treesOf(`(B Hole"" Var"x")`, `(B Var"x" Hole"")`)}
	grown := leaf("a", "")
	for range 8 {
		grown = node("B", grown, grown)
	}
	x := putBy(grown, slices.Repeat([]int{1}, 8), leaf("r", ""))
	x = putBy(x, slices.Repeat([]int{0, 1}, 4), leaf("r", ""))
	if less, kind, code := impl.Less(both, x); written(less) != `(B r"" r"")` || kind != impl.WtTwice || code != impl.OK {
		t.Errorf("a full one: %s, %d, %d", written(less), kind, code)
	}
	// A chain that is a value whatever stands in it, but for how many there are of it.
	chain := leaf("a", "")
	least := node("F", node("F", node("F", variable("x"))))
	for range impl.MaxDepth - 1 {
		chain = node("F", chain)
	}
	long := impl.Sem{Rules: []impl.RwRule{{Name: "r", Left: least, Right: leaf("a", "")}}, Values: []impl.Tree{least}}
	if less, kind, code := impl.Less(long, chain); written(less) != `(F (F (F a"")))` || kind != impl.WtValue || code != impl.OK {
		t.Errorf("a deep one: %s, %d, %d", written(less), kind, code)
	}
}

// someCounting is the language of numbers with other Shapes, and often with something that is not told, or told again.
func someCounting(r *rand.Rand) impl.Sem {
	s := copySem(counting())
	shapes := countingShapes()
	r.Shuffle(len(shapes), func(i int, j int) { shapes[i], shapes[j] = shapes[j], shapes[i] })
	s.Shapes = shapes[:1+r.Intn(len(shapes))]
	switch r.Intn(5) {
	case 0:
		i := r.Intn(len(s.Rules))
		s.Rules = slices.Delete(s.Rules, i, i+1)
	case 1:
		i := r.Intn(len(s.Contexts))
		s.Contexts = slices.Delete(s.Contexts, i, i+1)
	case 2:
		i := r.Intn(len(s.Values))
		s.Values = slices.Delete(s.Values, i, i+1)
	case 3:
		left := oneOf(r, treesOf(`(Succ Val"x")`, `(If Val"x" Var"y" Var"y")`, `(Pred (Pred Var"x"))`, `(Succ (Pred Var"x"))`, `(If Var"x" Yes"" No"")`, `(IsZero (IsZero Var"x"))`)...)
		s.Rules = append(s.Rules, impl.RwRule{Name: "new", Left: left, Right: someRight(r, left)})
	}
	return s
}

// broader has Values, Contexts and Rules for more trees: so more of them go on, and several times.
func broader(r *rand.Rand, s impl.Sem) impl.Sem {
	for _, value := range treesOf(`N"0"`, `N"1"`, `(F)`, `(F Var"x")`, `(Add Val"x" Val"y")`, `(Add Var"x" Var"y")`) {
		if r.Intn(2) == 0 {
			s.Values = append(s.Values, value)
		}
	}
	for _, context := range treesOf(`(F Hole"")`, `(Add Hole"" Var"y")`, `(Add Val"x" Hole"")`) {
		if r.Intn(2) == 0 {
			s.Contexts = append(s.Contexts, context)
		}
	}
	s.Rules = append(s.Rules, oneOf(r, sumRules()...))
	return s
}

// Promise 26: the first tree that is told badly, or none: then each has one redex, or none and is a value.
func TestWitnessesOfManySems(t *testing.T) {
	r := rand.New(rand.NewSource(163))
	met := map[string]int{}
	for i := range 2400 {
		s, size := someCounting(r), 1+r.Intn(5)
		if i%3 == 0 {
			s, size = broader(r, someSem(r)), 1+r.Intn(5)
		}
		badly, code := checkWitness(t, s, size)
		met[fmt.Sprint("kind ", badly.Kind, ", code ", code)]++
		met[fmt.Sprint("trees ", treeCount(badly.Tree))]++
		if code != impl.OK || badly.Kind == 0 {
			continue
		}
		if _, kind, code := impl.Less(s, badly.Tree); kind != badly.Kind || code != impl.OK {
			t.Fatalf("%s: %s is a witness of %d, and Less tells %d, %d", semText(s), written(badly.Tree), badly.Kind, kind, code)
		}
	}
	for _, kind := range []string{"kind 0, code 0", "kind 1, code 0", "kind 2, code 0", "kind 3, code 0", "trees 2", "trees 3", "trees 4"} {
		if met[kind] < 20 {
			t.Errorf("%s: only %d of %v", kind, met[kind], met)
		}
	}
}

// Promise 26: what Less gives is told badly in the same way, and no larger.
func TestLessOfManySems(t *testing.T) {
	r := rand.New(rand.NewSource(164))
	shapes := shapedBy(countingShapes(), 4)
	met := map[string]int{}
	for i := range 3000 {
		s, x := broader(r, someSem(r)), someAdding(r, 1+r.Intn(5))
		if i%3 == 0 {
			s, x = someCounting(r), oneOf(r, shapes...).tree
			for range r.Intn(3) {
				x = putBy(x, oneOf(r, pathsOf(x)...), oneOf(r, shapes...).tree)
			}
		}
		through, kind := checkLess(t, s, x)
		met[fmt.Sprint("kind ", kind)]++
		if len(through) > 0 {
			met[fmt.Sprint("times ", min(len(through)-1, 3))]++
			met[fmt.Sprint("kind ", kind, ", less: ", len(through) > 1)]++
		}
	}
	for _, kind := range []string{"kind 0", "kind 1, less: true", "kind 1, less: false", "kind 2, less: true", "kind 2, less: false", "kind 3, less: true", "kind 3, less: false", "times 0", "times 1", "times 2", "times 3"} {
		if met[kind] < 20 {
			t.Errorf("%s: only %d of %v", kind, met[kind], met)
		}
	}
}

// All trees of the language up to a size, each as it is told.
func TestLessOfCounting(t *testing.T) {
	s := counting()
	for _, made := range shapedBy(countingShapes(), 4) {
		checkLess(t, s, made.tree)
	}
}
