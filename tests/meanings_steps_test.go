package tests

import (
	"fmt"
	"math/rand"
	"slices"
	"strings"
	"testing"

	"loop.example/g00037/impl"
)

func TestRedexesOfCounting(t *testing.T) {
	s := counting()
	wantRedexes(t, "at []", s, tree(`(Pred Zero"")`), `[] 2`)
	wantRedexes(t, "through one Context", s, tree(`(Succ (Pred Zero""))`), `[0] 2`)
	wantRedexes(t, "through a Context within a Context", s, tree(`(If (IsZero (Pred (Succ Zero""))) Yes"" No"")`), `[0 0] 3`)
	wantRedexes(t, "where no Context leads", s, tree(`(If Zero"" (Pred Zero"") (Pred Zero""))`))
	wantRedexes(t, "beside one that is told", s, tree(`(If Yes"" (Pred Zero"") (Pred Zero""))`), `[] 0`)
	wantRedexes(t, "a value", s, tree(`(Succ (Succ Zero""))`))
	wantRedexes(t, "stuck", s, tree(`(Pred (If Zero"" Yes"" No""))`))
	wantRedexes(t, "a Val that is a value", s, tree(`(Pred (Succ (Succ Zero"")))`), `[] 3`)
	wantRedexes(t, "a Val that is none, but goes on", s, tree(`(Pred (Succ (Pred Zero"")))`), `[0 0] 2`)
	wantRedexes(t, "a Val that is none, and is stuck", s, tree(`(Pred (Succ Other""))`))
	wantRedexes(t, "a leaf", s, tree(`Zero""`))
	wantRedexes(t, "no Rules", impl.Sem{Values: s.Values, Contexts: s.Contexts}, tree(`(Pred Zero"")`))
	wantRedexes(t, "nothing at all", impl.Sem{}, tree(`(Pred Zero"")`))
}

func TestOrderOfRedexes(t *testing.T) {
	s := impl.Sem{
		Rules: []impl.RwRule{
			rule("same", `(P Var"x" Var"x")`, `Var"x"`),
			rule("a", `a""`, `b""`),
			rule("first", `(P Var"x" Var"y")`, `Var"x"`),
			rule("again", `a""`, `c""`),
		},
		Contexts: treesOf(`(P Var"x" Hole"")`, `(P Hole"" Var"y")`),
	}
	wantRedexes(t, "by several Rules", s, tree(`a""`), `[] 1`, `[] 3`)
	wantRedexes(t, "through several Contexts, the second Kid ahead", s, tree(`(P a"" a"")`), `[] 0`, `[] 2`, `[1] 1`, `[1] 3`, `[0] 1`, `[0] 3`)
	wantRedexes(t, "deeper ones ahead of the next Context's", s, tree(`(P a"" (P b"" a""))`), `[] 2`, `[1] 2`, `[1 1] 1`, `[1 1] 3`, `[0] 1`, `[0] 3`)
	wantRedexes(t, "in both Kids", s, tree(`(P (P b"" b"") (P a"" b""))`), `[] 2`, `[1] 2`, `[1 0] 1`, `[1 0] 3`, `[0] 0`, `[0] 2`)
	s.Contexts = []impl.Tree{s.Contexts[1], s.Contexts[0]}
	wantRedexes(t, "the first Kid ahead", s, tree(`(P a"" a"")`), `[] 0`, `[] 2`, `[0] 1`, `[0] 3`, `[1] 1`, `[1] 3`)
}

// Where several ways lead to one place it is told where the first of them stands.
func TestRedexesThatAreToldOnce(t *testing.T) {
	s := impl.Sem{
		Rules:    []impl.RwRule{rule("a", `a""`, `b""`), rule("g", `(G Var"x")`, `Var"x"`)},
		Contexts: treesOf(`(F Hole"" Var"y")`, `(F Var"x" Hole"")`, `(F Hole"" Var"x")`),
	}
	wantRedexes(t, "two Contexts alike", s, tree(`(F a"" a"")`), `[0] 0`, `[1] 0`)
	s.Contexts = treesOf(`(F (G Hole"") Var"y")`, `(F Hole"" Var"x")`, `(G Hole"")`)
	wantRedexes(t, "a Hole far down ahead", s, tree(`(F (G a"") a"")`), `[0 0] 0`, `[0] 1`)
	s.Contexts = treesOf(`(F Hole"" Var"x")`, `(G Hole"")`, `(F (G Hole"") Var"y")`)
	wantRedexes(t, "a Hole far down behind", s, tree(`(F (G a"") a"")`), `[0] 1`, `[0 0] 0`)
	s.Contexts = treesOf(`(F (G (G Hole"")) Var"x")`)
	wantRedexes(t, "a Hole far down alone", s, tree(`(F (G (G a"")) a"")`), `[0 0 0] 0`)
	wantRedexes(t, "a Hole further down than there is anything", s, tree(`(F (G a"") a"")`))
	// By way of both Contexts there are more ways than could be gone: fewer than those that are told.
	s = impl.Sem{Rules: []impl.RwRule{rule("a", `a""`, `b""`)}, Contexts: treesOf(`(F Hole"")`, `(F (F Hole""))`)}
	x := leaf("a", "")
	for range impl.MaxDepth - 1 {
		x = node("F", x)
	}
	list, code := impl.Redexes(s, x)
	if code != impl.OK || len(list) != 1 || len(list[0].Path) != impl.MaxDepth-1 {
		t.Error("many ways to one:", list, code)
	}
	if _, done, code := impl.RunSem(s, x, 2); done != 1 || code != impl.ErrStuck {
		t.Error("many ways to one:", done, code)
	}
	s.Rules = append(s.Rules, rule("f", `(F (F a""))`, `a""`))
	list, code = impl.Redexes(s, x)
	if code != impl.OK || len(list) != 2 || list[0].Rule != 1 || list[1].Rule != 0 || len(list[0].Path) != impl.MaxDepth-3 {
		t.Error("many ways to two:", list, code)
	}
}

// Whether a deep tree is a value is asked in more ways than could be gone, too.
func TestValuesInManyWays(t *testing.T) {
	s := impl.Sem{
		Rules:  []impl.RwRule{rule("v", `(V Val"x")`, `Val"x"`)},
		Values: treesOf(`a""`, `(F Val"x")`, `(F (F Val"x"))`, `(F (F (F Val"x")))`),
	}
	deepF := func(end impl.Tree) impl.Tree {
		for range impl.MaxDepth - 2 {
			end = node("F", end)
		}
		return node("V", end)
	}
	if list, code := impl.Redexes(s, deepF(leaf("a", ""))); len(list) != 1 || code != impl.OK {
		t.Error("a value:", list, code)
	}
	if list, code := impl.Redexes(s, deepF(leaf("b", ""))); len(list) != 0 || code != impl.OK {
		t.Error("no value:", list, code)
	}
}

func TestVariablesOfMeanings(t *testing.T) {
	values := treesOf(`a""`, `(S Val"x")`, `(T Var"x")`, `(D Val"x" Var"x")`)
	ruled := func(left string) impl.Sem {
		return impl.Sem{Rules: []impl.RwRule{rule("r", left, `a""`)}, Values: values}
	}
	for _, x := range []struct {
		left string
		tree string
		fits bool
	}{
		{`(F Var"x")`, `(F b"")`, true},
		{`(F Val"x")`, `(F b"")`, false},
		{`(F Val"x")`, `(F a"")`, true},
		{`(F Val"x")`, `(F (S (S a"")))`, true},
		{`(F Val"x")`, `(F (S (S b"")))`, false},
		{`(F Val"x")`, `(F (T b""))`, true},
		{`(F Val"x")`, `(F (S (T b"")))`, true},
		{`(F Val"x")`, `(F (D a"" a""))`, true},
		{`(F Val"x")`, `(F (D b"" b""))`, false},
		{`(F Val"x")`, `(F (D a"" (S a"")))`, false},
		{`(F Val"x" Var"x")`, `(F a"" a"")`, true},
		{`(F Val"x" Var"x")`, `(F b"" b"")`, false},
		{`(F Var"x" Val"x")`, `(F b"" b"")`, false},
		{`(F Var"x" Val"x")`, `(F a"" a"")`, true},
		{`(F Var"x" Val"x")`, `(F a"" (S a""))`, false},
		{`(F Val"x" Val"x")`, `(F (S a"") a"")`, false},
		{`(F Val"x" Val"y")`, `(F (S a"") a"")`, true},
		{`(F Var"x" Val"y")`, `(F b"" a"")`, true},
		{`(F Val"x" Var"y")`, `(F b"" a"")`, false},
		{`(F (G Val"x") Var"x")`, `(F (G (T b"")) (T b""))`, true},
		{`(Val Val"x")`, `(Val a"")`, true},
		{`(Val Val"x")`, `(F a"")`, false},
		{`(F Var"x")`, `(F Var"x")`, true},
		{`(F Val"x")`, `(F Val"x")`, false},
		{`(F Var"x")`, `(F Hole"")`, true},
		{`(F a"1")`, `(F a"")`, false},
		{`(F (a))`, `(F a"")`, false},
		{`(F Var"x")`, `(F a"" a"")`, false},
		{`(F Var"x")`, `(F)`, false},
	} {
		var want []string
		if x.fits {
			want = []string{`[] 0`}
		}
		wantRedexes(t, x.left, ruled(x.left), tree(x.tree), want...)
	}
}

// A Val in Right says nothing about what Left asks for.
func TestValInRightAlone(t *testing.T) {
	s := impl.Sem{Rules: []impl.RwRule{rule("r", `(F Var"x" Var"y")`, `(G Val"x" Val"x" Var"y")`)}, Values: treesOf(`a""`)}
	wantRedexes(t, "no value", s, tree(`(F b"" a"")`), `[] 0`)
	wantDo(t, "no value", s, tree(`(F b"" (F))`), tree(`(G b"" b"" (F))`), impl.OK)
	s.Rules[0] = rule("r", `(F Val"x" Var"y")`, `(G Var"x" Val"y")`)
	wantRedexes(t, "no value, which Left asks for", s, tree(`(F b"" a"")`))
	wantDo(t, "a value, filled into a Var", s, tree(`(F a"" b"")`), tree(`(G a"" b"")`), impl.OK)
}

func TestContextsOfRedexes(t *testing.T) {
	rules := []impl.RwRule{rule("r", `r""`, `a""`)}
	for _, x := range []struct {
		context string
		tree    string
		want    []string
	}{
		{`(F Hole"")`, `(F r"")`, []string{`[0] 0`}},
		{`(F Hole"")`, `(G r"")`, nil},
		{`(F Hole"")`, `(F r"" r"")`, nil},
		{`(F Hole"")`, `(F (F (F r"")))`, []string{`[0 0 0] 0`}},
		{`(F Hole"")`, `(F (G r""))`, nil},
		{`(F Val"x" Hole"")`, `(F a"" r"")`, []string{`[1] 0`}},
		{`(F Val"x" Hole"")`, `(F r"" r"")`, nil},
		{`(F Val"x" Hole"")`, `(F b"" (F a"" r""))`, nil},
		{`(F Val"x" Hole"")`, `(F a"" (F a"" r""))`, []string{`[1 1] 0`}},
		{`(F Var"x" Hole"" Var"x")`, `(F b"" r"" b"")`, []string{`[1] 0`}},
		{`(F Var"x" Hole"" Var"x")`, `(F b"" r"" a"")`, nil},
		{`(F Var"x" Hole"" Val"x")`, `(F b"" r"" b"")`, nil},
		{`(F Var"x" Hole"" Val"x")`, `(F a"" r"" a"")`, []string{`[1] 0`}},
		{`(F Var"x" Hole"" Val"y")`, `(F b"" r"" a"")`, []string{`[1] 0`}},
		{`(F (G a"" (G Hole"" Var"x")) Val"y")`, `(F (G a"" (G r"" r"")) a"")`, []string{`[0 1 0] 0`}},
		{`(F (G a"" (G Hole"" Var"x")) Val"y")`, `(F (G b"" (G r"" r"")) a"")`, nil},
		{`(F (F (F (F (F a"" (F Hole"" a"" a"") a"") a""))))`, `(F (F (F (F (F a"" (F r"" a"" a"") a"") a""))))`, []string{`[0 0 0 0 1 0] 0`}},
		{`(F (F (F (F a"" Hole"" Val"x"))))`, `(F (F (F (F a"" r"" a""))))`, []string{`[0 0 0 1] 0`}},
		{`(F (Hole) Hole"")`, `(F (Hole) r"")`, []string{`[1] 0`}},
		{`(F (Hole) Hole"")`, `(F a"" r"")`, nil},
	} {
		s := impl.Sem{Rules: rules, Values: treesOf(`a""`), Contexts: treesOf(x.context)}
		wantRedexes(t, x.context, s, tree(x.tree), x.want...)
	}
}

func TestDo(t *testing.T) {
	s := counting()
	wantDo(t, "at []", s, tree(`(If Yes"" (Pred Zero"") (F))`), tree(`(Pred Zero"")`), impl.OK)
	wantDo(t, "far down", s, tree(`(If (IsZero (Pred (Succ (Succ Zero"")))) a"" b"")`), tree(`(If (IsZero (Succ Zero"")) a"" b"")`), impl.OK)
	wantDo(t, "no redex, a value", s, tree(`(Succ Zero"")`), impl.Tree{}, impl.ErrNone)
	wantDo(t, "no redex, stuck", s, tree(`(Pred Yes"")`), impl.Tree{}, impl.ErrNone)
	twice := s
	twice.Rules = append(copyRwRules(s.Rules), rule("other", `(Pred Zero"")`, `No""`))
	wantDo(t, "two Rules", twice, tree(`(Succ (Pred Zero""))`), impl.Tree{}, impl.ErrTwice)
	wantDo(t, "two Rules that do the same", impl.Sem{Rules: []impl.RwRule{rule("r", `a""`, `b""`), rule("q", `a""`, `b""`)}}, tree(`a""`), impl.Tree{}, impl.ErrTwice)
	both := impl.Sem{Rules: []impl.RwRule{rule("r", `a""`, `b""`)}, Contexts: treesOf(`(F Hole"" Var"x")`, `(F Var"x" Hole"")`)}
	wantDo(t, "two places", both, tree(`(F a"" a"")`), impl.Tree{}, impl.ErrTwice)
	wantDo(t, "two places, one far down", both, tree(`(F (F (F b"" a"") b"") a"")`), impl.Tree{}, impl.ErrTwice)
	wantDo(t, "three places", both, tree(`(F (F a"" a"") a"")`), impl.Tree{}, impl.ErrTwice)
	wantDo(t, "two places in the second Kid alone", both, tree(`(F b"" (F a"" a""))`), impl.Tree{}, impl.ErrTwice)
	wantDo(t, "one place", both, tree(`(F (F b"" a"") b"")`), tree(`(F (F b"" b"") b"")`), impl.OK)
	within := impl.Sem{Rules: []impl.RwRule{rule("r", `(G Var"x")`, `Var"x"`), rule("a", `a""`, `b""`)}, Contexts: treesOf(`(G Hole"")`)}
	wantDo(t, "at [] and within", within, tree(`(G a"")`), impl.Tree{}, impl.ErrTwice)
	// The same redex by two ways is one.
	ways := both
	ways.Contexts = treesOf(`(F Hole"" Var"x")`, `(F (F Hole"" Var"x") Var"y")`, `(F Hole"" Var"z")`)
	wantDo(t, "one place, by several ways", ways, tree(`(F (F a"" b"") c"")`), tree(`(F (F b"" b"") c"")`), impl.OK)
	// One that is told already, ahead of another one behind it.
	ways = impl.Sem{Rules: both.Rules, Contexts: treesOf(`(F (G Hole"" Var"y"))`, `(F Hole"")`, `(G Hole"" Var"y")`, `(G Var"x" Hole"")`)}
	wantDo(t, "one by two ways, and another", ways, tree(`(F (G a"" a""))`), impl.Tree{}, impl.ErrTwice)
	wantDo(t, "one by two ways", ways, tree(`(F (G a"" b""))`), tree(`(F (G b"" b""))`), impl.OK)
	wantDo(t, "as often as Right says", impl.Sem{Rules: []impl.RwRule{rule("r", `(F Var"x" Var"y")`, `(G Var"y" Var"x" Var"y")`)}}, tree(`(F (A b"") (C))`), tree(`(G (C) (A b"") (C))`), impl.OK)
}

// wideWith is a node with so many trees in it, in two Kids of which one is x.
func wideWith(x impl.Tree, n int) impl.Tree {
	return node("W", x, wide(n-1-treeCount(x)))
}

func TestDoTooLarge(t *testing.T) {
	s := impl.Sem{Rules: []impl.RwRule{rule("more", `(M Var"x")`, `(M Var"x" Var"x")`)}, Contexts: treesOf(`(W Hole"" Var"x")`, `(n Hole"")`)}
	more := node("M", wide(10))
	for by, want := range map[int]int{9: impl.ErrFull, 10: impl.OK} {
		x := wideWith(more, impl.MaxNodes-by)
		behind, code := impl.Do(s, x)
		if code != want || code == impl.OK && treeCount(behind) != impl.MaxNodes {
			t.Errorf("Do, with room for %d trees: %d, %d", by, treeCount(behind), code)
		}
		checkDo(t, s, x)
		if end, done, code := checkRun(t, s, x, 3); want == impl.ErrFull && (!sameTree(end, x) || done != 0 || code != impl.ErrFull) {
			t.Errorf("RunSem: %d, %d", done, code)
		}
	}
	// What is bound is as large as a tree can be, and stands there very often.
	much := impl.Sem{Rules: []impl.RwRule{{Name: "much", Left: tree(`(M Var"x")`), Right: node("R", slices.Repeat(treesOf(`Var"x"`), impl.MaxNodes-1)...)}}}
	wantDo(t, "much too large", much, node("M", wide(impl.MaxNodes-1)), impl.Tree{}, impl.ErrFull)
	wantDo(t, "just not too large", much, tree(`(M a"")`), node("R", slices.Repeat(treesOf(`a""`), impl.MaxNodes-1)...), impl.OK)
	wantDo(t, "too large by one Kid for each", much, tree(`(M (a b""))`), impl.Tree{}, impl.ErrFull)
	// Too deep: the redex stands far down.
	deeper := impl.Sem{Rules: []impl.RwRule{rule("r", `r""`, `(F (F a""))`)}, Contexts: s.Contexts}
	for depth, want := range map[int]int{impl.MaxDepth - 2: impl.OK, impl.MaxDepth - 1: impl.ErrFull, impl.MaxDepth: impl.ErrFull} {
		x := leaf("r", "")
		for range depth - 1 {
			x = node("n", x)
		}
		if behind, code := impl.Do(deeper, x); code != want || code == impl.OK && treeCount(behind) != impl.MaxDepth {
			t.Errorf("Do to a tree %d deep: %d", depth, code)
		}
		checkDo(t, deeper, x)
	}
	// What is too deep itself, though what it is in leaves.
	bound := impl.Sem{Rules: []impl.RwRule{{Name: "r", Left: tree(`(G (G (G Var"x")))`), Right: node("n", node("n", variable("x")))}}}
	x := node("G", node("G", node("G", deep(impl.MaxDepth-3))))
	if behind, code := impl.Do(bound, x); code != impl.OK || treeCount(behind) != impl.MaxDepth-1 {
		t.Error("less deep than before:", code)
	}
}

func TestRunSem(t *testing.T) {
	s := counting()
	x := tree(`(If (IsZero (Pred (Succ Zero""))) (Succ Zero"") No"")`)
	steps := treesOf(written(x), `(If (IsZero Zero"") (Succ Zero"") No"")`, `(If Yes"" (Succ Zero"") No"")`, `(Succ Zero"")`)
	for fuel, at := range steps {
		code := impl.ErrTired
		if fuel == len(steps)-1 {
			code = impl.OK
		}
		wantRun(t, "fuel that is just enough, or less", s, x, fuel, at, fuel, code)
	}
	last := len(steps) - 1
	wantRun(t, "one more than enough", s, x, last+1, steps[last], last, impl.OK)
	wantRun(t, "as much as there can be", s, x, impl.MaxFuel, steps[last], last, impl.OK)
	for _, fuel := range []int{-1, impl.MaxFuel + 1, -1 << 63, 1<<63 - 1} {
		for _, x := range treesOf(written(x), `Zero""`, `(Pred Yes"")`) {
			if end, done, code := impl.RunSem(s, x, fuel); !isZero(end) || done != 0 || code != impl.ErrBad {
				t.Errorf("fuel %d: %s, %d, %d", fuel, written(end), done, code)
			}
		}
	}
	for _, fuel := range []int{0, 1, impl.MaxFuel} {
		wantRun(t, "a value", s, tree(`(Succ (Succ Zero""))`), fuel, tree(`(Succ (Succ Zero""))`), 0, impl.OK)
		wantRun(t, "stuck at once", s, tree(`(Pred Yes"")`), fuel, tree(`(Pred Yes"")`), 0, impl.ErrStuck)
	}
	wantRun(t, "stuck behind two steps", s, tree(`(Pred (If (IsZero Zero"") No"" Yes""))`), 9, tree(`(Pred No"")`), 2, impl.ErrStuck)
	wantRun(t, "stuck with just enough fuel", s, tree(`(Pred (If (IsZero Zero"") No"" Yes""))`), 2, tree(`(Pred No"")`), 2, impl.ErrStuck)
	wantRun(t, "not stuck yet", s, tree(`(Pred (If (IsZero Zero"") No"" Yes""))`), 1, tree(`(Pred (If Yes"" No"" Yes""))`), 1, impl.ErrTired)
	wantRun(t, "nothing is a value", impl.Sem{}, tree(`a""`), 0, tree(`a""`), 0, impl.ErrStuck)
}

func TestRunsThatEndWithDosCode(t *testing.T) {
	s := impl.Sem{
		Rules:    []impl.RwRule{rule("r", `r""`, `(P a"" a"")`), rule("a", `a""`, `b""`), rule("m", `(M Var"x")`, `(M (P Var"x" Var"x"))`), rule("once", `o""`, `(M c"")`)},
		Contexts: treesOf(`(P Hole"" Var"x")`, `(P Var"x" Hole"")`),
		Values:   treesOf(`b""`, `(P Var"x" Var"y")`),
	}
	x := tree(`(P b"" r"")`)
	two := tree(`(P b"" (P a"" a""))`)
	for fuel, code := range []int{impl.ErrTired, impl.ErrTired, impl.ErrTwice, impl.ErrTwice} {
		want := two
		if fuel == 0 {
			want = x
		}
		wantRun(t, "two redexes at the end", s, x, fuel, want, min(fuel, 1), code)
	}
	wantRun(t, "two redexes at once, without fuel", s, two, 0, two, 0, impl.ErrTired)
	wantRun(t, "two redexes at once", s, two, 1, two, 0, impl.ErrTwice)
	wantRun(t, "a value that goes on", s, tree(`(P b"" a"")`), 1, tree(`(P b"" b"")`), 1, impl.OK)
	wantRun(t, "a value that goes on, without fuel", s, tree(`(P b"" a"")`), 0, tree(`(P b"" a"")`), 0, impl.ErrTired)
	// Each time it has twice as many and one: behind 9 times 1024.
	o := leaf("o", "")
	end, done, code := checkRun(t, s, o, 100)
	if done != 9 || code != impl.ErrFull || treeCount(end) != 512 {
		t.Errorf("too large in the end: %d, %d, %d trees", done, code, treeCount(end))
	}
	if again, done, code := checkRun(t, s, o, 9); done != 9 || code != impl.ErrTired || !sameTree(again, end) {
		t.Errorf("too large in the end, and no fuel: %d, %d", done, code)
	}
	if again, done, code := checkRun(t, s, o, 10); done != 9 || code != impl.ErrFull || !sameTree(again, end) {
		t.Errorf("too large in the end, with fuel for it: %d, %d", done, code)
	}
}

func TestRunsWithoutEnd(t *testing.T) {
	s := impl.Sem{Rules: []impl.RwRule{rule("a", `a""`, `b""`), rule("b", `b""`, `a""`)}, Values: treesOf(`a""`), Contexts: treesOf(`(P Var"x" Hole"")`)}
	if end, done, code := impl.RunSem(s, tree(`(P b"" a"")`), impl.MaxFuel); done != impl.MaxFuel || code != impl.ErrTired || written(end) != `(P b"" a"")` {
		t.Error("round and round:", written(end), done, code)
	}
	if end, done, code := impl.RunSem(s, tree(`(P b"" a"")`), impl.MaxFuel-1); done != impl.MaxFuel-1 || code != impl.ErrTired || written(end) != `(P b"" b"")` {
		t.Error("round and round:", written(end), done, code)
	}
	// A large one, of which a small place is changed.
	large := node("P", wide(impl.MaxNodes-2), leaf("b", ""))
	if end, done, code := impl.RunSem(s, large, impl.MaxFuel); done != impl.MaxFuel || code != impl.ErrTired || !sameTree(end, large) {
		t.Error("a large one:", done, code)
	}
	// Binary numbers that count: to 0, as many times as there are numbers below.
	count := impl.Sem{
		Rules: []impl.RwRule{
			rule("last", `(N (I Var"n"))`, `(N (O Var"n"))`),
			rule("borrow", `(N (O (I Var"n")))`, `(N (I (O Var"n")))`),
			rule("borrow2", `(N (O (O (I Var"n"))))`, `(N (I (I (O Var"n"))))`),
			rule("borrow3", `(N (O (O (O (I Var"n")))))`, `(N (I (I (I (O Var"n")))))`),
		},
		Values: treesOf(`(N Var"zero")`),
	}
	wantRun(t, "from 15 to 0", count, tree(`(N (I (I (I (I e"")))))`), 15, tree(`(N (O (O (O (O e"")))))`), 15, impl.OK)
	wantRun(t, "from 15 to 1", count, tree(`(N (I (I (I (I e"")))))`), 14, tree(`(N (I (O (O (O e"")))))`), 14, impl.ErrTired)
}

// Promise 26: RunSem is Do, again and again. All trees of the language, up to a size.
func TestRunsOfCounting(t *testing.T) {
	s := counting()
	ends := map[int]int{}
	shapes := []impl.Shape{leafShape("Zero"), leafShape("Yes"), leafShape("No"), nodeShape("Succ", 1), nodeShape("Pred", 1), nodeShape("IsZero", 1), nodeShape("If", 3)}
	for _, made := range shapedBy(shapes, 5) {
		checkRedexes(t, s, made.tree)
		checkDo(t, s, made.tree)
		for _, fuel := range []int{0, 1, 10} {
			_, _, code := checkRun(t, s, made.tree, fuel)
			ends[code]++
		}
	}
	if ends[impl.OK] < 200 || ends[impl.ErrStuck] < 200 || ends[impl.ErrTired] < 200 || len(ends) != 3 {
		t.Error(ends)
	}
}

func TestStepsOfManySems(t *testing.T) {
	r := rand.New(rand.NewSource(161))
	met := map[string]int{}
	for range 4000 {
		s := someSem(r)
		if !impl.SemOK(s) {
			t.Fatal(semText(s), "is right")
		}
		for range 4 {
			x := someAdding(r, 1+r.Intn(5))
			list := checkRedexes(t, s, x)
			met[fmt.Sprint("redexes ", min(len(list), 3))]++
			for _, redex := range list {
				met[fmt.Sprint("depth ", min(len(redex.Path), 3))]++
			}
			met[fmt.Sprint("do ", checkDo(t, s, x))]++
			for _, fuel := range []int{r.Intn(3), 3 + r.Intn(5)} {
				_, done, code := checkRun(t, s, x, fuel)
				met[fmt.Sprint("run ", code)]++
				met[fmt.Sprint("done ", min(done, 3))]++
			}
		}
	}
	for _, kind := range []string{"redexes 0", "redexes 1", "redexes 2", "redexes 3", "depth 0", "depth 1", "depth 2", "depth 3", "do 0", "do 5", "do 6", "run 0", "run 5", "run 11", "run 14", "done 0", "done 1", "done 2", "done 3"} {
		if met[kind] < 100 {
			t.Errorf("%s: only %d", kind, met[kind])
		}
	}
}

// roomySem has a spare one behind each list.
func roomySem(s impl.Sem) impl.Sem {
	s.Rules = append(make([]impl.RwRule, 0, len(s.Rules)+1), s.Rules...)
	for i := range s.Rules {
		s.Rules[i].Left, s.Rules[i].Right = roomy(s.Rules[i].Left), roomy(s.Rules[i].Right)
	}
	s.Shapes = append(make([]impl.Shape, 0, len(s.Shapes)+1), s.Shapes...)
	s.Values, s.Contexts = roomyTrees(s.Values), roomyTrees(s.Contexts)
	return s
}

func roomyTrees(list []impl.Tree) []impl.Tree {
	trees := make([]impl.Tree, 0, len(list)+1)
	for _, x := range list {
		trees = append(trees, roomy(x))
	}
	return trees
}

// patternsOf are all trees of a Sem.
func patternsOf(s impl.Sem) []impl.Tree {
	all := slices.Concat(s.Values, s.Contexts)
	for _, rule := range s.Rules {
		all = append(all, rule.Left, rule.Right)
	}
	return all
}

func semSparesKept(s impl.Sem) bool {
	rule := s.Rules[:len(s.Rules)+1][len(s.Rules)]
	value := s.Values[:len(s.Values)+1][len(s.Values)]
	context := s.Contexts[:len(s.Contexts)+1][len(s.Contexts)]
	shape := s.Shapes[:len(s.Shapes)+1][len(s.Shapes)]
	return rule.Name == "" && isZero(value) && isZero(context) && shape == impl.Shape{} && allOfThem(patternsOf(s), sparesKept)
}

func TestMeaningsKeepAndShareNothing(t *testing.T) {
	r := rand.New(rand.NewSource(162))
	answers := 0
	for range 1500 {
		plain, y := someSem(r), someAdding(r, 1+r.Intn(4))
		s, x := roomySem(plain), roomy(y)
		given := memory{}
		given.addTree(x)
		for _, p := range patternsOf(s) {
			given.addTree(p)
		}
		list, _ := impl.Redexes(s, x)
		var paths [][]int
		for _, redex := range list {
			paths = append(paths, redex.Path)
		}
		done, _ := impl.Do(s, x)
		end, _, _ := impl.RunSem(s, x, 5)
		less, _, _ := impl.Less(s, x)
		badly, _ := impl.Witness(s, 3)
		told := memory{}
		told.addPaths(paths)
		for _, u := range []impl.Tree{done, end, less, badly.Tree} {
			told.addTree(u)
			answers += oneFor(len(u.Kids) > 0)
		}
		if !told.isApart(given) {
			t.Fatalf("%s with %s: answers share memory", semText(plain), written(y))
		}
		if !sameTree(x, y) || !sparesKept(x) || semText(s) != semText(plain) || !semSparesKept(s) {
			t.Fatalf("%s with %s: an argument was written to", semText(plain), written(y))
		}
	}
	if answers < 1000 {
		t.Errorf("only %d answers had Kids", answers)
	}
	// A tree that comes to stand at several places stands in several memories.
	s := impl.Sem{Rules: []impl.RwRule{{Name: "r", Left: tree(`(M Var"x")`), Right: tree(`(R Var"x" (S Var"x") (C d"" (C d"")))`)}}}
	told := memory{}
	for range 2 {
		behind, _ := impl.Do(s, tree(`(M (F a"" (G b"")))`))
		end, _, _ := impl.RunSem(s, tree(`(M (F a"" (G b"")))`), 5)
		told.addTree(behind)
		told.addTree(end)
	}
	if !told.isApart(memory{}) {
		t.Error("two trees of an answer, or of two, share memory")
	}
}

// What a call was given may be changed behind it: nothing is kept.
func TestMeaningsAreAskedAnew(t *testing.T) {
	s, x := counting(), tree(`(Pred (Succ Zero""))`)
	before, _ := impl.Redexes(s, x)
	s.Rules[3].Left.Kids[0].Name = "Other"
	if list, code := impl.Redexes(s, x); len(before) != 1 || len(list) != 0 || code != impl.OK {
		t.Error(before, list, code)
	}
	s = counting()
	s.Values[3] = tree(`(Succ a"")`)
	wantRedexes(t, "other Values", s, tree(`(Pred (Succ (Succ Zero"")))`))
	if again := strings.Count(semText(counting()), "value"); again != 4 {
		t.Error(again)
	}
}
