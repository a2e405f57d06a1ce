package tests

import (
	"math"
	"math/rand"
	"slices"
	"strings"
	"testing"

	"loop.example/g00037/impl"
)

// countRules count a leaf up, and to and fro.
func countRules() []impl.RwRule {
	return []impl.RwRule{
		rule("a", `N"1"`, `N"2"`), rule("b", `N"2"`, `N"3"`), rule("back", `N"2"`, `N"1"`),
		rule("open", `(F Var"x")`, `(G Var"x")`), rule("shut", `(G Var"x")`, `Var"x"`), rule("turn", `(P Var"x" Var"y")`, `(P Var"y" Var"x")`),
	}
}

// The steps of each are counted by hand.
func TestEachPrimAndWord(t *testing.T) {
	for _, x := range []struct {
		plan, from, to string
		steps          int
	}{
		{"id", `N"1"`, `N"1"`, 1}, {"id", `(P N"1" N"1")`, `(P N"1" N"1")`, 1}, {"fail", `N"1"`, ``, 1},
		{"a", `N"1"`, `N"2"`, 1}, {"a", `N"2"`, ``, 1}, {"a", `(F N"1")`, ``, 1}, {"open", `(F (F N"1"))`, `(G (F N"1"))`, 1}, {"shut", `(G N"1")`, `N"1"`, 1}, {"turn", `(P N"1" (F))`, `(P (F) N"1")`, 1},
		{"(id)", `N"1"`, `N"1"`, 2}, {"((a))", `N"1"`, `N"2"`, 3}, {"(fail)", `N"1"`, ``, 2}, {"(((fail)))", `N"1"`, ``, 4},

		{"a;b", `N"1"`, `N"3"`, 2}, {"a;b;id;id", `N"1"`, `N"3"`, 4}, {"b;a", `N"1"`, ``, 1}, {"a;a", `N"1"`, ``, 2}, {"a;back;a;back;a", `N"1"`, `N"2"`, 5}, {"id;fail;id", `N"1"`, ``, 2},
		{"a|b", `N"1"`, `N"2"`, 1}, {"a|b", `N"2"`, `N"3"`, 2}, {"a|b", `N"3"`, ``, 2}, {"fail|fail|id", `N"1"`, `N"1"`, 3}, {"id|a|b", `N"1"`, `N"1"`, 1}, {"b|a|fail", `N"1"`, `N"2"`, 2},
		// ; binds closer.
		{"fail;id|id", `N"1"`, `N"1"`, 2}, {"id|id;fail", `N"1"`, `N"1"`, 1}, {"id;fail|id", `N"1"`, `N"1"`, 3}, {"a;a|a;b", `N"1"`, `N"3"`, 4}, {"a|b;b", `N"1"`, `N"2"`, 1}, {"(a|b);b", `N"1"`, `N"3"`, 3}, {"b;(a|id)", `N"1"`, ``, 1}, {"a;b|id;b", `N"2"`, `N"3"`, 3}, {"fail;(id|id)", `N"1"`, ``, 1}, {"a;(b;fail|id)", `N"1"`, `N"2"`, 5},

		{"all(a)", `(P N"1" N"1")`, `(P N"2" N"2")`, 3}, {"all(a)", `(P N"1" N"2")`, ``, 3}, {"all(a)", `(P N"2" N"1")`, ``, 2}, {"all(a|b)", `(P N"1" N"2")`, `(P N"2" N"3")`, 4}, {"all(a;b)", `(P N"1" N"1" N"1")`, `(P N"3" N"3" N"3")`, 7},
		{"all(all(a))", `(P (F N"1") (P N"1" N"1"))`, `(P (F N"2") (P N"2" N"2"))`, 6}, {"all(a)", `(F (F N"1"))`, ``, 2},
		{"one(a)", `(P N"1" N"1")`, `(P N"2" N"1")`, 2}, {"one(a)", `(P N"2" N"1")`, `(P N"2" N"2")`, 3}, {"one(a)", `(P N"2" N"3" (F N"1"))`, ``, 4}, {"one(a|b)", `(P N"3" N"2" N"1")`, `(P N"3" N"3" N"1")`, 5}, {"one(one(a))", `(P (F N"2") (P N"2" N"1"))`, `(P (F N"2") (P N"2" N"2"))`, 6},
		// A leaf has no Kids, and a node may have none.
		{"all(fail)", `N"1"`, `N"1"`, 1}, {"all(id)", `N"1"`, `N"1"`, 1}, {"one(id)", `N"1"`, ``, 1}, {"all(fail)", `(F)`, `(F)`, 1}, {"one(id)", `(F)`, ``, 1}, {"one(id)|id", `(F)`, `(F)`, 2},

		// try, ( and what is in it, and id when that fails.
		{"try(id)", `N"1"`, `N"1"`, 3}, {"try(a)", `N"1"`, `N"2"`, 3}, {"try(a)", `N"2"`, `N"2"`, 4}, {"try(fail)", `N"1"`, `N"1"`, 4}, {"try((a))", `N"1"`, `N"2"`, 4}, {"try(try(fail))", `N"1"`, `N"1"`, 6}, {"try(fail|fail)", `N"1"`, `N"1"`, 5}, {"try(a;a)", `N"1"`, `N"1"`, 5}, {"try(fail|a)", `N"1"`, `N"2"`, 4}, {"try(fail;a|b)", `N"2"`, `N"3"`, 4},
		// repeat, try, (, (, and what is in it; once more behind that; and id when it fails.
		{"repeat(fail)", `N"1"`, `N"1"`, 6}, {"repeat(a)", `N"2"`, `N"2"`, 6}, {"repeat(a)", `N"1"`, `N"2"`, 11}, {"repeat(a|b)", `N"1"`, `N"3"`, 5 + 6 + 7}, {"repeat(b|a)", `N"1"`, `N"3"`, 6 + 5 + 7}, {"repeat(a;b)", `N"1"`, `N"3"`, 6 + 6}, {"repeat(shut)", `(G (G (G N"1")))`, `N"1"`, 3*5 + 6}, {"repeat((shut))", `(G (G N"1"))`, `N"1"`, 2*6 + 7},
		{"repeat(one(a))", `(P N"1" N"2" N"1")`, `(P N"2" N"2" N"2")`, 6 + 8 + 9}, {"repeat(all(shut))", `(P (G (G N"1")) (G N"1"))`, `(P (G N"1") N"1")`, 7 + 8},
		// down, (, what is in it, all, and each Kid.
		{"down(id)", `N"1"`, `N"1"`, 4}, {"down(id)", `(P N"1" N"1")`, `(P N"1" N"1")`, 12}, {"down(fail)", `(F N"1")`, ``, 3}, {"down(try(a))", `(P N"1" (F N"1"))`, `(P N"2" (F N"2"))`, 4*3 + 2*4 + 2*3}, {"down(open|id)", `(F (F N"1"))`, `(G (G N"1"))`, 4 + 4 + 5}, {"down(try(shut))", `(G (G (G N"1")))`, `(G N"1")`, 2 * 6}, {"down(id;id)", `N"1"`, `N"1"`, 5}, {"down(id|fail)", `(F N"1")`, `(F N"1")`, 8}, {"down(turn|id)", `(P (P N"1" N"2") N"3")`, `(P N"3" (P N"2" N"1"))`, 4 + 5 + 4 + 5 + 5},
		// up, (, all, each Kid, and what is in it.
		{"up(id)", `N"1"`, `N"1"`, 4}, {"up(id)", `(P N"1" N"1")`, `(P N"1" N"1")`, 12}, {"up(fail)", `(F N"1")`, ``, 7}, {"up(fail)", `N"1"`, ``, 4}, {"up(try(a))", `(P N"1" (F N"1"))`, `(P N"2" (F N"2"))`, 4*3 + 2*4 + 2*3}, {"up(try(shut))", `(G (G (G N"1")))`, `N"1"`, 3*6 + 7}, {"up(a|id)", `(F N"1")`, `(F N"2")`, 9}, {"up(id;fail|id)", `N"1"`, `N"1"`, 6},
		// inner, (, all, each Kid, try, (, (, what is in it; and inner again, or id.
		{"inner(fail)", `N"1"`, `N"1"`, 8}, {"inner(fail)", `(P N"1" N"1")`, `(P N"1" N"1")`, 24}, {"inner(a)", `N"1"`, `N"2"`, 7 + 8}, {"inner(a|b)", `N"1"`, `N"3"`, 7 + 8 + 9}, {"inner(a)", `(F N"1")`, `(F N"2")`, 8 + 15}, {"inner(shut)", `(G (G N"1"))`, `N"1"`, 8 + 7 + 8 + 7 + 8}, {"inner(open|shut)", `(F (F N"1"))`, `N"1"`, 9 + (7 + 9 + 8 + 9) + (7 + 9 + 8 + 9)},
		// One within the other.
		{"all(try(one(a)))", `(P (F N"1") (F N"2"))`, `(P (F N"2") (F N"2"))`, 1 + 4 + 5}, {"one(all(fail))", `(P (F N"1") N"1" (F))`, `(P (F N"1") N"1" (F))`, 1 + 2 + 1}, {"try(repeat(one(shut)))", `(P (G N"1") (G N"2"))`, `(P N"1" N"2")`, 2 + 6 + 7 + 8},
	} {
		if x.to == "" {
			wantFails(t, countRules(), x.plan, tree(x.from), x.steps)
		} else {
			wantDone(t, countRules(), x.plan, tree(x.from), tree(x.to), x.steps)
		}
	}
}

// What was done ahead of a failure is as it was for what comes behind a |, and for the next Kid of one; the steps count.
func TestWhatIsUndone(t *testing.T) {
	for _, x := range []struct {
		plan, from, to string
		steps          int
	}{
		{"a;fail|id", `N"1"`, `N"1"`, 3}, {"(a;fail)|id", `N"1"`, `N"1"`, 4}, {"a;b;fail|a", `N"1"`, `N"2"`, 4}, {"a;fail|b", `N"1"`, ``, 3}, {"a;fail|a;b;fail|a;b", `N"1"`, `N"3"`, 7}, {"(a;fail|id);a", `N"1"`, `N"2"`, 5},
		{"all(a);fail|id", `(P N"1" N"1")`, `(P N"1" N"1")`, 5}, {"all(a)|id", `(P N"1" N"1" N"2")`, `(P N"1" N"1" N"2")`, 5}, {"try(all(a))", `(P N"1" N"2")`, `(P N"1" N"2")`, 6}, {"all(a)|all(a|b)", `(P N"1" N"2")`, `(P N"2" N"3")`, 3 + 4},
		{"one(a;fail)|id", `(P N"1" N"1")`, `(P N"1" N"1")`, 6}, {"one(a;b)", `(P (F) N"1" N"1")`, `(P (F) N"3" N"1")`, 4}, {"one(all(a))", `(Q (P N"1" N"2") (P N"1" N"1"))`, `(Q (P N"1" N"2") (P N"2" N"2"))`, 1 + 3 + 3}, {"one((a|b);back)", `(P N"2" N"3" N"1")`, `(P N"2" N"3" N"1")`, 1 + 4 + 3 + 3},
		{"one((a;fail|id);a)", `(P N"1")`, `(P N"2")`, 6}, {"all((a;fail|id);try(b))", `(P N"1" N"2")`, `(P N"1" N"3")`, 1 + 4 + 4 + 3 + 3},
		{"try(a;fail);a", `N"1"`, `N"2"`, 6}, {"repeat(a;b;fail)", `N"1"`, `N"1"`, 8}, {"repeat((a|b);(b|fail))", `N"1"`, `N"3"`, 4 + 4 + (4 + 3 + 1)}, {"down(a;fail|id)", `(F N"1")`, `(F N"1")`, 5 + 6}, {"up(all(a);fail|id)", `(F N"1")`, `(F N"1")`, 6 + 7}, {"inner(a;fail)", `N"1"`, `N"1"`, 9}, {"all(all(a))|all(try(all(a)))", `(Q (F N"1") (F N"2"))`, `(Q (F N"2") (F N"2"))`, 1 + 2 + 2 + 1 + 4 + 5},
		{"turn;fail|one(a)", `(P N"1" N"1")`, `(P N"2" N"1")`, 4}, {"turn;all(a)|turn", `(P N"1" N"3")`, `(P N"3" N"1")`, 4},
	} {
		if x.to == "" {
			wantFails(t, countRules(), x.plan, tree(x.from), x.steps)
		} else {
			wantDone(t, countRules(), x.plan, tree(x.from), tree(x.to), x.steps)
		}
	}
}

// All plans of few words and signs, done to some trees with each fuel up to what they need.
func TestAllShortPlansDone(t *testing.T) {
	rules := []impl.RwRule{rule("a", `N"1"`, `N"2"`), rule("t", `(P Var"x" Var"y")`, `(P Var"y" Var"x")`)}
	trees := []impl.Tree{tree(`N"1"`), tree(`(P N"1" N"2")`), tree(`(P (P N"1" N"1") N"1")`)}
	done, failed := 0, 0
	tokens := append([]string{"fail", "id", "a", "t", "(", ")", ";", "|"}, "all", "one", "try", "down", "up", "repeat", "inner")
	for _, list := range lists(tokens, 5) {
		plan := strings.Join(list, "")
		if code, _ := planBy(namesOf(rules), plan); code != impl.OK {
			continue
		}
		for _, x := range trees {
			_, did, steps, code := checkRewrite(t, rules, plan, x, 60)
			for fuel := range min(steps, 60) {
				if _, _, n, code := checkRewrite(t, rules, plan, x, fuel); n != fuel || code != impl.ErrTired {
					t.Fatal(plan, written(x), fuel, n, code)
				}
			}
			done += oneFor(did)
			failed += oneFor(!did && code == impl.OK)
		}
	}
	if done < 500 || failed < 300 {
		t.Errorf("%d were done, %d failed", done, failed)
	}
}

func TestManyPlansDone(t *testing.T) {
	r := rand.New(rand.NewSource(114))
	rules := sumRules()
	met := map[string]int{}
	for range 12000 {
		plan := somePlan(r, namesOf(rules), 1+r.Intn(4))
		if len(plan) > impl.MaxPlan {
			continue
		}
		x := someAdding(r, 1+r.Intn(5))
		fuel := oneOf(r, 3, 20, 200, 1000)
		got, done, steps, code := checkRewrite(t, rules, plan, x, fuel)
		switch {
		case code == impl.ErrTired:
			met["tired"]++
		case code == impl.ErrFull:
			met["full"]++
		case !done:
			met["failed"]++
		case sameTree(got, x):
			met["the same"]++
		default:
			met["changed"]++
		}
		if code == impl.OK {
			wantRewritten(t, rules, plan, x, steps, got, done, steps, code)
			wantTired(t, rules, plan, x, steps-1)
			wantTired(t, rules, plan, x, 0)
		}
	}
	for _, kind := range []string{"tired", "failed", "the same", "changed"} {
		if met[kind] < 500 {
			t.Error("too few of a kind:", met)
		}
	}
}

// The second half of promise 17, for what all kinds of plans are repeated to.
func TestWhatRepeatGivesItsPlanFailsFor(t *testing.T) {
	r := rand.New(rand.NewSource(115))
	rules := sumRules()
	changed := 0
	for range 12000 {
		plan := somePlan(r, namesOf(rules), 1+r.Intn(3))
		if len(plan) > impl.MaxPlan/2 {
			continue
		}
		x := someAdding(r, 1+r.Intn(5))
		got, done, _, code := impl.Rewrite(rules, "repeat("+plan+")", x, 1000)
		if code != impl.OK {
			continue
		}
		if !done {
			t.Fatalf("repeat(%s) of %s fails", plan, written(x))
		}
		if again, done, _, code := impl.Rewrite(rules, plan, got, impl.MaxFuel); done || code != impl.OK || !sameTree(again, impl.Tree{}) {
			t.Fatalf("%s is done to %s, which repeat of it gave for %s: code %d", plan, written(got), written(x), code)
		}
		// Once more it gives the same.
		if again, done, _, code := impl.Rewrite(rules, "repeat("+plan+")", got, impl.MaxFuel); !done || code != impl.OK || !sameTree(again, got) {
			t.Fatalf("repeat(%s) changes %s again", plan, written(got))
		}
		changed += oneFor(!sameTree(got, x))
	}
	if changed < 500 {
		t.Errorf("repeat changed only %d trees", changed)
	}
	sums := []impl.RwRule{rule("zero", `(Add Var"x" N"0")`, `Var"x"`), rule("orez", `(Add N"0" Var"x")`, `Var"x"`)}
	for _, plan := range []string{"zero|orez", "one(zero|orez)", "zero;zero", "down(zero)", "one(one(orez));id"} {
		for range 200 {
			x := someAdding(r, 6)
			got, done, _, code := impl.Rewrite(sums, "repeat("+plan+")", x, impl.MaxFuel)
			if _, again, _, _ := impl.Rewrite(sums, plan, got, impl.MaxFuel); !done || code != impl.OK || again {
				t.Fatalf("repeat(%s) of %s is %s, %v, %d", plan, written(x), written(got), done, code)
			}
		}
	}
}

// Sums are done all over a tree: nothing is left that a rule can be done to.
func TestInnerLeavesNothing(t *testing.T) {
	r := rand.New(rand.NewSource(116))
	rules := []impl.RwRule{rule("zero", `(Add Var"x" N"0")`, `Var"x"`), rule("orez", `(Add N"0" Var"x")`, `Var"x"`), rule("turn", `(Add (Add Var"x" Var"y") Var"z")`, `(Add Var"x" (Add Var"y" Var"z"))`)}
	for range 300 {
		x := someAdding(r, 5)
		got, done, _, code := checkRewrite(t, rules, "inner(zero|orez|turn)", x, impl.MaxFuel)
		if !done || code != impl.OK {
			t.Fatal(written(x), done, code)
		}
		for _, rule := range rules {
			if places := checkPlaces(t, rule.Left, got); len(places) != 0 {
				t.Fatalf("%s is left in %s at %v", rule.Name, written(got), places)
			}
		}
	}
}

func TestFuel(t *testing.T) {
	rules := countRules()
	x := tree(`(P N"1" N"2")`)
	for _, plan := range []string{"id", "fail", "a", "turn", "(id)", "all(a)", "one(a)", "try(a)", "repeat(a)", "down(id)", "up(id)", "inner(a)", "id;fail", "fail|id"} {
		wantTired(t, rules, plan, x, 0)
	}
	// What has no end is tired, with whatever fuel.
	for _, plan := range []string{"repeat(id)", "repeat(turn)", "inner(turn)", "repeat(try(fail))", "repeat(repeat(fail))", "down(repeat(id))", "one(repeat(a|back))", "repeat(all(a|back|b|id))", "repeat((id|fail);(fail|id))", "fail|repeat(id)", "repeat(id);fail|id"} {
		for _, fuel := range []int{0, 1, 2, 3, 4, 5, 6, 7, 8, 50, 999} {
			wantTired(t, rules, plan, x, fuel)
		}
		wantTired(t, rules, plan, x, impl.MaxFuel-1)
		wantTired(t, rules, plan, x, impl.MaxFuel)
	}
	for _, fuel := range []int{impl.MaxFuel + 1, -1, 2 * impl.MaxFuel, math.MaxInt, math.MinInt} {
		for _, plan := range []string{"id", "fail", "repeat(id)"} {
			if got := answered(impl.Rewrite(rules, plan, x, fuel)); got != answered(impl.Tree{}, false, 0, impl.ErrBad) {
				t.Errorf("fuel %d: %s", fuel, got)
			}
		}
	}
	// All the fuel there can be, to the last step: down counts 4 for each tree, and so does up.
	wide := node("P")
	for len(wide.Kids) < 999 {
		wide.Kids = append(wide.Kids, leaf("N", "3"))
	}
	exact := "(" + strings.TrimSuffix(strings.Repeat("down(id);", 5), ";") + ")"
	if steps := 5*4*impl.MaxNodes + 1; steps != impl.MaxFuel+1 {
		t.Fatal(steps)
	}
	wantTired(t, rules, exact, wide, impl.MaxFuel)
	exact = exact[1 : len(exact)-1]
	wantTired(t, rules, exact, wide, impl.MaxFuel-1)
	wantRewritten(t, rules, exact, wide, impl.MaxFuel, wide, true, impl.MaxFuel, impl.OK)
}

func TestRewritingWrongTrees(t *testing.T) {
	rules := countRules()
	for why, wrong := range wrongTrees() {
		for _, plan := range []string{"id", "fail", "a", "?", ""} {
			for _, fuel := range []int{0, 10, -1, impl.MaxFuel + 1} {
				if got := answered(impl.Rewrite(rules, plan, wrong, fuel)); got != answered(impl.Tree{}, false, 0, impl.ErrBad) {
					t.Errorf("%s: %q gives %s", why, plan, got)
				}
			}
		}
	}
	for _, x := range someTrees() {
		wantDone(t, rules, "id", x, x, 1)
	}
	// A tree may have leaves called Var that are no variables.
	x := tree(`(P Var"" Var"1")`)
	wantDone(t, rules, "turn", x, tree(`(P Var"1" Var"")`), 1)
}

// growRules make a tree larger, deeper, and less.
func growRules() []impl.RwRule {
	return []impl.RwRule{
		rule("grow", `N"0"`, `(M N"0")`), rule("two", `N"0"`, `(M N"0" N"0")`), rule("less", `(M Var"x")`, `Var"x"`), rule("twice", `(T Var"x")`, `(T Var"x" Var"x")`), rule("same", `N"0"`, `N"1"`),
	}
}

// beside has n trees: a node with some first, and other leaves behind them.
func beside(n int, first ...string) impl.Tree {
	x := node("n")
	for _, text := range first {
		x.Kids = append(x.Kids, tree(text))
	}
	for range n - len(pathsOf(x)) {
		x.Kids = append(x.Kids, leaf("k", ""))
	}
	return x
}

// below has a tree as many trees deep.
func below(above int, text string) impl.Tree {
	x := tree(text)
	for range above {
		x = node("n", x)
	}
	return x
}

const mostNodes = impl.MaxNodes

func TestWholeTreesThatAreTooGreat(t *testing.T) {
	rules := growRules()
	// The part that the rule gives is right by itself.
	wantDone(t, rules, "one(grow)", beside(mostNodes-1, `N"0"`), beside(mostNodes, `(M N"0")`), 2)
	wantFull(t, rules, "one(grow)", beside(mostNodes, `N"0"`), 2)
	wantDone(t, rules, "one(two)", beside(mostNodes-2, `N"0"`), beside(mostNodes, `(M N"0" N"0")`), 2)
	wantFull(t, rules, "one(two)", beside(mostNodes-1, `N"0"`), 2)
	wantDone(t, rules, "one(twice)", beside(mostNodes-3, `(T (F (G) (G)))`), beside(mostNodes, `(T (F (G) (G)) (F (G) (G)))`), 2)
	wantFull(t, rules, "one(twice)", beside(mostNodes-2, `(T (F (G) (G)))`), 2)
	// It is not: then the whole is not, either.
	large := node("T", wide((mostNodes-1)/2))
	wantDone(t, rules, "twice", large, node("T", large.Kids[0], large.Kids[0]), 1)
	wantFull(t, rules, "twice", node("T", wide((mostNodes-1)/2+1)), 1)
	wantDone(t, rules, "one(twice)", node("n", large), node("n", node("T", large.Kids[0], large.Kids[0])), 2)
	wantFull(t, rules, "one(twice)", node("n", large, leaf("k", "")), 2)
	million := impl.RwRule{Name: "million", Left: node("T", variable("x")), Right: node("n")}
	for range mostNodes - 1 {
		million.Right.Kids = append(million.Right.Kids, variable("x"))
	}
	wantFull(t, []impl.RwRule{million}, "million", node("T", wide(mostNodes-1)), 1)
	wantFull(t, []impl.RwRule{million}, "one(million)", node("n", node("T", leaf("a", ""))), 2)
	wantDone(t, []impl.RwRule{million}, "million", node("T", leaf("k", "")), node("n", wide(mostNodes).Kids...), 1)
}

// Whatever stands behind it, and whatever else could be done.
func TestFullIsNotUndone(t *testing.T) {
	rules := growRules()
	for _, x := range []struct {
		plan  string
		steps int
	}{
		{"one(grow)", 2}, {"one(grow);fail", 2}, {"one(grow);fail|id", 2}, {"one(grow)|id", 2}, {"one(grow;fail|id)", 2}, {"one(grow|id)", 2}, {"one(grow;less)", 2}, {"one(grow|same)", 2}, {"one(grow);one(less)", 2}, {"one(grow);repeat(id)", 2}, {"one(grow;repeat(id))", 2}, {"all(grow)", 2}, {"all(grow|id)", 2},
		{"(one(grow);fail)|id", 3}, {"fail|one(grow)", 3}, {"try(one(grow))", 4}, {"one(try(grow))", 4}, {"repeat(one(grow))", 6}, {"down(grow|id)", 8}, {"up(try(grow))", 9}, {"inner(grow)", 10}, {"one(same);fail|one(grow)", 5}, {"one(same;fail|grow)", 4},
	} {
		wantFull(t, rules, x.plan, beside(mostNodes, `N"0"`), x.steps)
		wantFull(t, rules, x.plan, beside(mostNodes, `N"0"`, `(M N"0")`), x.steps)
	}
	// The other rules may be done.
	wantDone(t, rules, "one(same)", beside(mostNodes, `N"0"`), beside(mostNodes, `N"1"`), 2)
	wantDone(t, rules, "one(less);one(grow)", beside(mostNodes, `(M N"0")`), beside(mostNodes, `(M N"0")`), 4)
}

// What was taken back makes room again, and what came in takes it.
func TestRoomInTheWholeTree(t *testing.T) {
	rules := growRules()
	from, to := beside(mostNodes-1, `N"0"`), beside(mostNodes, `(M N"0")`)
	wantDone(t, rules, "one(grow);fail|one(grow)", from, to, 5)
	wantDone(t, rules, "one(grow;fail|grow)", from, to, 4)
	wantDone(t, rules, "one((grow;fail|id);grow)", from, to, 6)
	wantDone(t, rules, "one(grow;less;grow)", from, to, 4)
	wantDone(t, rules, "try(one(grow;fail));one(grow)", from, to, 3+2+(mostNodes-3)+1+2)
	wantDone(t, rules, "all(grow)|one(grow)", from, to, 3+2)
	wantFull(t, rules, "one(grow;all(grow))", from, 4)
	wantFull(t, rules, "one(grow);one(all(grow))", from, 5)
	// What a Kid that failed had made is no more when the next one is gone to.
	wantDone(t, rules, "one(all(grow))", beside(mostNodes-1, `(P N"0" N"1")`, `(Q N"0")`), beside(mostNodes, `(P N"0" N"1")`, `(Q (M N"0"))`), 6)
	wantDone(t, rules, "one(grow;fail|all(grow))", beside(mostNodes-1, `N"0"`, `(P N"0")`), beside(mostNodes-1, `N"0"`, `(P N"0")`), 4)
	// The Kids that were gone to are as they came to be.
	wantDone(t, rules, "all(less|grow|id)", beside(mostNodes, `(M N"1")`, `N"0"`), beside(mostNodes, `N"1"`, `(M N"0")`), 4+3*(mostNodes-4))
	wantFull(t, rules, "all(less|grow|id)", beside(mostNodes, `N"0"`, `(M N"1")`), 3)
	wantFull(t, rules, "all(less|grow|id)", beside(mostNodes, `(M N"1")`, `N"0"`, `N"0"`), 6)
	wantFull(t, rules, "all(grow|id)", beside(mostNodes-1, `N"0"`, `N"0"`), 3)
	wantFull(t, rules, "all(all(grow))", beside(mostNodes-2, `(P N"0")`, `(P N"0" N"0")`), 6)
	// A part that is done within a part, and what stands beside it higher up.
	wantDone(t, rules, "one(one(one(grow)))", beside(mostNodes-1, `(P (Q N"0") (F))`), beside(mostNodes, `(P (Q (M N"0")) (F))`), 4)
	wantFull(t, rules, "one(one(one(grow)))", beside(mostNodes, `(P (Q N"0") (F))`), 4)
	wantFull(t, rules, "down(grow|id)", beside(mostNodes-1, `(P (Q N"0") (F))`, `N"0"`), 5+5+5+4+3)
}

func TestWholeTreesThatAreTooDeep(t *testing.T) {
	rules := growRules()
	const most = impl.MaxDepth
	down := func(n int, plan string) string { return strings.Repeat("one(", n) + plan + strings.Repeat(")", n) }
	wantDone(t, rules, down(10, "grow"), below(10, `N"0"`), below(10, `(M N"0")`), 11)
	wantDone(t, rules, down(most-2, "grow"), below(most-2, `N"0"`), below(most-2, `(M N"0")`), most-1)
	wantFull(t, rules, down(most-1, "grow"), below(most-1, `N"0"`), most)
	wantFull(t, rules, down(most-1, "two"), below(most-1, `N"0"`), most)
	wantDone(t, rules, down(most-1, "same"), below(most-1, `N"0"`), below(most-1, `N"1"`), most)
	// Elsewhere there is room.
	x := node("n", deep(most-1), leaf("N", "0"))
	wantDone(t, rules, "one(grow)", x, node("n", deep(most-1), tree(`(M N"0")`)), 3)
	// What a rule gives is right by itself, and too deep where it stands.
	high := []impl.RwRule{{Name: "fits", Left: leaf("N", "0"), Right: deep(most - 10)}, {Name: "high", Left: leaf("N", "0"), Right: deep(most - 9)}, rule("deeper", `(n Var"x")`, `(n (n Var"x"))`)}
	from, to := below(10, `N"0"`), deep(most)
	wantDone(t, high, down(10, "fits"), from, to, 11)
	wantFull(t, high, down(10, "high"), from, 11)
	wantFull(t, high, down(10, "fits;deeper"), from, 12)
	wantFull(t, high, down(10, "fits")+";deeper", from, 12)
	wantFull(t, high, down(10, "(high;fail)|id"), from, 12)
	wantFull(t, high, down(10, "high|fits"), from, 11)
	wantFull(t, high, down(10, "try(high)"), from, 13)
	wantFull(t, high, "try("+down(10, "high")+")", from, 13)
	wantDone(t, high, down(10, "(fits;fail)|fits"), from, to, 14)
	wantDone(t, high, down(10, "fits")+";fail|"+down(10, "fits"), from, to, 23)
	wantDone(t, high, down(9, "high"), below(9, `N"0"`), to, 10)
	wantFull(t, high, "deeper;"+down(10, "high"), below(9, `N"0"`), 12)
	// By what is filled in.
	lift := []impl.RwRule{rule("lift", `(T Var"x")`, `(T (M Var"x"))`), rule("drop", `(T Var"x")`, `Var"x"`)}
	wantDone(t, lift, "lift", node("T", deep(most-2)), node("T", node("M", deep(most-2))), 1)
	wantFull(t, lift, "lift", node("T", deep(most-1)), 1)
	wantDone(t, lift, "one(lift)", node("n", node("T", deep(most-3))), node("n", node("T", node("M", deep(most-3)))), 2)
	wantFull(t, lift, "one(lift)", node("n", node("T", deep(most-2))), 2)
	wantDone(t, lift, "drop", node("T", deep(most-1)), deep(most-1), 1)
	wantFull(t, lift, "all(lift)|id", node("n", node("T", deep(3)), node("T", deep(most-2))), 3)
}

// The code is that of what comes first.
func TestTiredOrFull(t *testing.T) {
	rules := growRules()
	x := beside(mostNodes, `N"0"`)
	wantTired(t, rules, "one(grow)", x, 0)
	wantTired(t, rules, "one(grow)", x, 1)
	wantRewritten(t, rules, "one(grow)", x, 2, impl.Tree{}, false, 2, impl.ErrFull)
	wantTired(t, rules, "repeat(id);one(grow)", x, 100)
	wantRewritten(t, rules, "one(grow);repeat(id)", x, 100, impl.Tree{}, false, 2, impl.ErrFull)
	// What grows without end is full in the end, or tired.
	grows := []impl.RwRule{rule("wider", `(T Var"x")`, `(T (P Var"x" Var"x"))`), rule("longer", `(T Var"x")`, `(T (T Var"x"))`)}
	wantFull(t, grows, "repeat(wider)", tree(`(T N"1")`), 9*5)
	wantTired(t, grows, "repeat(wider)", tree(`(T N"1")`), 9*5-1)
	wantFull(t, grows, "repeat(longer)", tree(`(T N"1")`), (impl.MaxDepth-1)*5)
	wantFull(t, grows, "down(longer)", tree(`(T N"1")`), 4*(impl.MaxDepth-2)+3)
}

// Trees that grow often meet the limits in the midst of a plan.
func TestManyPlansThatGrow(t *testing.T) {
	r := rand.New(rand.NewSource(117))
	rules := growRules()
	met := map[int]int{}
	for range 1500 {
		plan := somePlan(r, append(namesOf(rules), "grow", "two", "less"), 1+r.Intn(3))
		plan = oneOf(r, plan, "down(try("+plan+"))", "up(try("+plan+"))", "inner("+plan+")")
		x := oneOf(r, beside(mostNodes-r.Intn(4), `(P N"0" (M N"0"))`, `(M (T N"0"))`, `N"0"`), below(impl.MaxDepth-3-r.Intn(4), `(P N"0" (T N"0"))`))
		if len(plan) > impl.MaxPlan {
			continue
		}
		_, _, steps, code := checkRewrite(t, rules, plan, x, 300)
		met[code]++
		if code == impl.ErrFull {
			wantFull(t, rules, plan, x, steps)
		}
	}
	for _, code := range []int{impl.OK, impl.ErrFull, impl.ErrTired} {
		if met[code] < 100 {
			t.Error("too few of a kind:", met)
		}
	}
}

// Nothing is written into what Rewrite is given, nor behind it, and nothing of it is in what it answers.
func TestRewriteSharesNothing(t *testing.T) {
	rules := []impl.RwRule{
		rule("in", `(P Var"x" Var"y")`, `(Q Var"x" (M (K N"7")) Var"x" Var"y")`), rule("out", `(Q Var"x" Var"m" Var"x" Var"y")`, `(P Var"x" Var"y")`), rule("new", `N"1"`, `(F (G N"2"))`),
	}
	for i := range rules {
		rules[i].Left, rules[i].Right = roomy(rules[i].Left), roomy(rules[i].Right)
	}
	before := copyRwRules(rules)
	x := roomy(tree(`(P (F N"1" (G)) (P N"1" N"1"))`))
	xBefore := copyTree(x)
	for _, plan := range []string{"id", "in", "in;out", "all(id)", "one(id)", "one(in)", "all(try(in))", "down(try(in))", "up(try(in|new))", "inner(new)", "down(try(new))", "repeat(one(one(new)))", "(all(try(in|new));fail)|in", "try(in;one(in);fail);all(all(try(new)))", "fail"} {
		got, done, steps, code := checkRewrite(t, rules, plan, x, 1000)
		if code != impl.OK || done != (plan != "fail") {
			t.Fatal(plan, done, code)
		}
		again := answered(got, done, steps, code)
		for _, path := range pathsOf(got) {
			// A list of Kids that is written over is at one place alone.
			if at := under(got, path); len(at.Kids) > 0 {
				kept := slices.Clone(at.Kids)
				at.Kids[0] = leaf("spoilt", "")
				want := putBy(copyTree(got), path, node("any"))
				at.Kids[0] = kept[0]
				if !sameTree(putBy(got, path, node("any")), want) {
					t.Fatalf("%s: two places of %s share memory", plan, written(got))
				}
			}
		}
		spoil(got)
		if !sameTree(x, xBefore) || !sparesKept(x) {
			t.Fatal(plan, "changed the tree, or shares it")
		}
		for _, r := range rules {
			if !sparesKept(r.Left) || !sparesKept(r.Right) {
				t.Fatal(plan, "wrote behind a rule")
			}
		}
		if !sameRwRules(rules, before) {
			t.Fatal(plan, "changed a rule, or shares it")
		}
		if second := answered(impl.Rewrite(rules, plan, x, 1000)); second != again {
			t.Fatalf("%s: at first %s, then %s", plan, again, second)
		}
	}
	// Rules are read up to their number, and what stands behind them in memory is not.
	spare := append(slices.Clone(rules), impl.RwRule{})[:len(rules)]
	wantPlan(t, "spare room behind the rules", spare, "in")
}
