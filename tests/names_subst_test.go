package tests

import (
	"math/rand"
	"slices"
	"strconv"
	"strings"
	"testing"

	"loop.example/g00037/impl"
)

func TestSubst(t *testing.T) {
	for _, x := range []struct{ why, t, x, u, want string }{
		{"the Id itself", `x`, "x", `(Lam y 1)`, `(Lam y 1)`},
		{"another Id", `y`, "x", `1`, `y`},
		{"a Num", `1`, "x", `y`, `1`},
		{"Yes", `Yes`, "x", `y`, `Yes`},
		{"nowhere", `(Lam y (App y z))`, "x", `(App y z)`, `(Lam y (App y z))`},
		{"each place", `(If x (Add x y) (Eq 1 x))`, "x", `2`, `(If 2 (Add 2 y) (Eq 1 2))`},
		{"itself", `(Add x y)`, "x", `x`, `(Add x y)`},
		{"what comes in is not gone through again", `(Add x x)`, "x", `(App x y)`, `(Add (App x y) (App x y))`},
		{"declared by a Lam", `(Lam x x)`, "x", `1`, `(Lam x x)`},
		{"declared by a Lam further out", `(Lam x (Lam y (App x y)))`, "x", `y`, `(Lam x (Lam y (App x y)))`},
		{"declared by a Let", `(Let x 1 x)`, "x", `2`, `(Let x 1 x)`},
		{"the a of a Let stands outside", `(Let x x x)`, "x", `2`, `(Let x 2 x)`},
		{"free in one part and not in the other", `(App (Lam x x) x)`, "x", `2`, `(App (Lam x x) 2)`},
		{"free in one part and not in the other, the other way round", `(App x (Let x 1 x))`, "x", `2`, `(App 2 (Let x 1 x))`},
		{"through a Lam of another name", `(Lam y (App x y))`, "x", `z`, `(Lam y (App z y))`},
		{"through a Let of another name", `(Let y x (App x y))`, "x", `z`, `(Let y z (App z y))`},
		{"within a Lam of x in the b of a Let", `(Let y x (Lam x (App x y)))`, "x", `z`, `(Let y z (Lam x (App x y)))`},
		{"names that begin with it", `(App (App x1 xx) (App x_1 x))`, "x", `0`, `(App (App x1 xx) (App x_1 0))`},
	} {
		wantSubst(t, x.why, x.t, x.x, x.u, x.want)
	}
}

func TestNamesThatAreCalledAnew(t *testing.T) {
	for _, x := range []struct{ why, t, x, u, want string }{
		{"a Lam would catch", `(Lam y (App x y))`, "x", `y`, `(Lam y1 (App y y1))`},
		{"a Let would catch", `(Let y 1 (App x y))`, "x", `y`, `(Let y1 1 (App y y1))`},
		{"the a of the Let keeps its own", `(Let y (App x y) (App x y))`, "x", `y`, `(Let y1 (App y y) (App y y1))`},
		{"within a larger one", `(Lam y x)`, "x", `(Lam z (App z y))`, `(Lam y1 (Lam z (App z y)))`},
		{"what refers to it deep within", `(Lam y (If x (Lam z y) (Let w y (Add w y))))`, "x", `y`, `(Lam y1 (If y (Lam z y1) (Let w y1 (Add w y1))))`},
		{"another of the same name within keeps its own", `(Lam y (App x (Lam y y)))`, "x", `y`, `(Lam y1 (App y (Lam y y)))`},
		{"a Let of the same name within, whose a refers to the outer one", `(Lam y (App x (Let y y y)))`, "x", `y`, `(Lam y1 (App y (Let y y1 y)))`},

		{"no such place within", `(App (Lam y y) x)`, "x", `y`, `(App (Lam y y) y)`},
		{"the only place is in the a of the Let", `(Let y x y)`, "x", `y`, `(Let y y y)`},
		{"x is declared within", `(Lam y (Lam x (App x y)))`, "x", `y`, `(Lam y (Lam x (App x y)))`},
		{"x is declared around", `(Lam x (Lam y (App x y)))`, "x", `y`, `(Lam x (Lam y (App x y)))`},
		{"y does not stand in what comes", `(Lam y (App x y))`, "x", `z`, `(Lam y (App z y))`},
		{"y is declared in what comes", `(Lam y (App x y))`, "x", `(Lam y y)`, `(Lam y (App (Lam y y) y))`},
		{"y stands free and declared in what comes", `(Lam y (App x y))`, "x", `(App y (Lam y y))`, `(Lam y1 (App (App y (Lam y y)) y1))`},
		{"y stands free in the a of a Let in what comes", `(Lam y x)`, "x", `(Let y y 1)`, `(Lam y1 (Let y y 1))`},
		{"y stands in the b of a Let in what comes", `(Lam y x)`, "x", `(Let y 1 y)`, `(Lam y (Let y 1 y))`},
		{"what comes has x, and x is declared beside", `(App (Lam x x) x)`, "x", `(App x y)`, `(App (Lam x x) (App x y))`},
		{"what comes has x, and x is declared in the b of a Let", `(Let x x x)`, "x", `(Add x 1)`, `(Let x (Add x 1) x)`},
		{"nothing is called anew for what it was called", `(Lam y (App x y1))`, "x", `z`, `(Lam y (App z y1))`},
	} {
		wantSubst(t, x.why, x.t, x.x, x.u, x.want)
	}
}

func TestWhatANameIsCalledAnew(t *testing.T) {
	for _, x := range []struct{ why, t, x, u, want string }{
		{"the first stands free in t", `(Lam y (App y1 x))`, "x", `y`, `(Lam y2 (App y1 y))`},
		{"the first is declared in t", `(App (Lam y (App y x)) (Lam y1 1))`, "x", `y`, `(App (Lam y2 (App y2 y)) (Lam y1 1))`},
		{"the first stands where nothing is put", `(App (Lam y x) (Lam x y1))`, "x", `y`, `(App (Lam y2 y) (Lam x y1))`},
		{"the first stands free in u", `(Lam y x)`, "x", `(App y y1)`, `(Lam y2 (App y y1))`},
		{"the first is declared in u", `(Lam y x)`, "x", `(Lam y1 y)`, `(Lam y2 (Lam y1 y))`},
		{"the first is x", `(Lam y y1)`, "y1", `y`, `(Lam y2 y)`},
		{"the second is free, the third is not", `(Lam y (App x (App y1 y3)))`, "x", `y`, `(Lam y2 (App y (App y1 y3)))`},
		{"of t, u and x each has one", `(Lam y (App y2 y1))`, "y2", `(App y y3)`, `(Lam y4 (App (App y y3) y1))`},
		{"nine stand there", `(Lam y (App x (App (App (App y1 y2) (App y3 y4)) (App (App y5 y6) (App y7 (App y8 y9))))))`, "x", `y`, `(Lam y10 (App y (App (App (App y1 y2) (App y3 y4)) (App (App y5 y6) (App y7 (App y8 y9))))))`},
		{"y01 is another name", `(Lam y (App x y01))`, "x", `y`, `(Lam y1 (App y y01))`},
		{"digits at the end", `(Lam y7 (App x y7))`, "x", `y7`, `(Lam y1 (App y7 y1))`},
		{"many digits at the end", `(Lam y1234567890 x)`, "x", `y1234567890`, `(Lam y1 y1234567890)`},
		{"it is y1 itself", `(Lam y1 (App x y1))`, "x", `y1`, `(Lam y2 (App y1 y2))`},
		{"it is y2", `(Lam y2 (App x y2))`, "x", `y2`, `(Lam y1 (App y2 y1))`},
		{"a 0 at the end", `(Lam y0 x)`, "x", `y0`, `(Lam y1 y0)`},
		{"a needless 0 at the end", `(Lam y01 x)`, "x", `y01`, `(Lam y1 y01)`},
		{"digits within", `(Lam y1z x)`, "x", `y1z`, `(Lam y1z1 y1z)`},
		{"digits within and at the end", `(Lam y1z9 x)`, "x", `y1z9`, `(Lam y1z1 y1z9)`},
		{"a _ ahead of the digits", `(Lam y_1 x)`, "x", `y_1`, `(Lam y_2 y_1)`},
		{"a _ at the end", `(Lam y_ x)`, "x", `y_`, `(Lam y_1 y_)`},
		{"all letters", `(Lam abc x)`, "x", `abc`, `(Lam abc1 abc)`},
		{"large letters", `(Lam aBC x)`, "x", `aBC`, `(Lam aBC1 aBC)`},
	} {
		wantSubst(t, x.why, x.t, x.x, x.u, x.want)
	}
}

func TestSeveralNamesThatAreCalledAnew(t *testing.T) {
	for _, x := range []struct{ why, t, x, u, want string }{
		{"one within the other", `(Lam y (Lam y x))`, "x", `y`, `(Lam y1 (Lam y2 y))`},
		{"one within the other, with what refers to them", `(Lam y (App y (Lam y (App x y))))`, "x", `y`, `(Lam y1 (App y1 (Lam y2 (App y y2))))`},
		{"side by side", `(App (Lam y x) (Lam y x))`, "x", `y`, `(App (Lam y1 y) (Lam y2 y))`},
		{"side by side, the first need not", `(App (Lam y y) (Lam y x))`, "x", `y`, `(App (Lam y y) (Lam y1 y))`},
		{"the outer one must, the inner one need not", `(Lam y (App x (Lam y y)))`, "x", `y`, `(Lam y1 (App y (Lam y y)))`},
		{"a Let ahead of what is in its a", `(Let y (Lam y x) x)`, "x", `y`, `(Let y1 (Lam y2 y) y)`},
		{"a Let that need not, and what is in its a", `(Let y (Lam y x) y)`, "x", `y`, `(Let y (Lam y1 y) y)`},
		{"a Let, its a, its b", `(Let y (Let y x (App x y)) (Let y (App x y) (App x y)))`, "x", `y`, `(Let y1 (Let y2 y (App y y2)) (Let y3 (App y y1) (App y y3)))`},
		{"two names of one stem", `(Lam y (Lam y3 (App x (App y y3))))`, "x", `(App y y3)`, `(Lam y1 (Lam y2 (App (App y y3) (App y1 y2))))`},
		{"two names of one stem, the other way round", `(Lam y3 (Lam y (App x (App y y3))))`, "x", `(App y y3)`, `(Lam y1 (Lam y2 (App (App y y3) (App y2 y1))))`},
		{"two names, each its own", `(Lam y (Lam z (App x (App y z))))`, "x", `(App z y)`, `(Lam y1 (Lam z1 (App (App z y) (App y1 z1))))`},
		{"one of three", `(Lam a (Lam b (Lam c x)))`, "x", `b`, `(Lam a (Lam b1 (Lam c b)))`},
		{"all three", `(Lam a (Lam b (Lam c x)))`, "x", `(If c b a)`, `(Lam a1 (Lam b1 (Lam c1 (If c b a))))`},
		{"the second takes what is left", `(Lam y (Lam y2 (App x y1)))`, "x", `(App y y2)`, `(Lam y3 (Lam y4 (App (App y y2) y1)))`},
		{"deep in the first Kid ahead of the second", `(If (App 1 (Lam y x)) (Lam y x) (Add 2 (Lam y x)))`, "x", `y`, `(If (App 1 (Lam y1 y)) (Lam y2 y) (Add 2 (Lam y3 y)))`},
		{"around ahead of within, whichever is named first", `(App (Lam z (Lam y x)) (Lam y (Lam z x)))`, "x", `(App y z)`, `(App (Lam z1 (Lam y1 (App y z))) (Lam y2 (Lam z2 (App y z))))`},
	} {
		wantSubst(t, x.why, x.t, x.x, x.u, x.want)
	}
	// So many that their numbers have three digits.
	var list, want []impl.Tree
	for i := range 150 {
		list = append(list, lam("y", app(id("x"), id("y"))))
		anew := "y" + strconv.Itoa(i+1)
		want = append(want, lam(anew, app(id("y"), id(anew))))
	}
	if put, code := checkSubst(t, apps(list), "x", id("y")); code != impl.OK || !sameTree(put, apps(want)) {
		t.Error(code)
	}
	// One within the other, as many as there can be.
	low, lowWant := app(id("x"), id("y")), app(id("y"), id("y"+strconv.Itoa(impl.MaxDepth-2)))
	for i := range impl.MaxDepth - 2 {
		low, lowWant = lam("y", low), lam("y"+strconv.Itoa(impl.MaxDepth-2-i), lowWant)
	}
	if put, code := checkSubst(t, low, "x", id("y")); code != impl.OK || !sameTree(put, lowWant) {
		t.Error(written(put), code)
	}
}

func TestManyTermsPutInThePlaceOfAName(t *testing.T) {
	r := rand.New(rand.NewSource(19))
	changed, anew := 0, 0
	for range 20000 {
		x := someTerm(r, 1+r.Intn(6))
		u := oneOf(r, id("y"), app(id("y1"), id("y")), someTerm(r, 3))
		name := oneOf(r, "x", "x", oneOf(r, termNames...))
		put, code := checkSubst(t, x, name, u)
		if code != impl.OK {
			continue
		}
		changed += oneFor(!sameTree(put, x))
		anew += oneFor(len(newNames(put, x, u)) > 0)
	}
	if changed < 3000 || anew < 800 {
		t.Errorf("only %d were changed, %d with names anew", changed, anew)
	}
}

// All terms of two names that are at most three deep, without If, Add and Eq.
func TestAllSmallTermsPutInThePlaceOfAName(t *testing.T) {
	all := []impl.Tree{id("x"), id("y")}
	for range 2 {
		next := []impl.Tree{id("x"), id("y")}
		for _, a := range all {
			next = append(next, lam("x", a), lam("y", a))
			for _, b := range all {
				next = append(next, app(a, b), let("x", a, b), let("y", a, b))
			}
		}
		all = next
	}
	for _, x := range all {
		for _, u := range []impl.Tree{id("y"), app(id("y"), id("x")), lam("y", app(id("y"), id("y1")))} {
			if _, code := checkSubst(t, x, "x", u); code != impl.OK {
				t.Fatal(written(x), code)
			}
		}
	}
}

// newNames are those of put that neither of the others has.
func newNames(put impl.Tree, others ...impl.Tree) []string {
	namesIn := func(x impl.Tree) []string {
		var names []string
		for _, path := range pathsOf(x) {
			if at := under(x, path); at.Name == "Id" {
				names = append(names, at.Text)
			}
		}
		return names
	}
	return slices.DeleteFunc(namesIn(put), func(name string) bool {
		return slices.ContainsFunc(others, func(x impl.Tree) bool { return slices.Contains(namesIn(x), name) })
	})
}

// A name that is put in its own place, or in that of one that no one has, and what was put in taken out again.
func TestPutInAndTakenOut(t *testing.T) {
	r := rand.New(rand.NewSource(191))
	for range 3000 {
		x := someTerm(r, 1+r.Intn(6))
		name := oneOf(r, termNames...)
		if put, code := checkSubst(t, x, name, id(name)); code != impl.OK || !sameTree(put, x) {
			t.Fatalf("%s by itself in %s: %s", name, written(x), written(put))
		}
		if put, code := checkSubst(t, x, "fresh", someTerm(r, 3)); code != impl.OK || !sameTree(put, x) {
			t.Fatalf("what stands nowhere in %s: %s", written(x), written(put))
		}
		there, code := checkSubst(t, x, name, id("fresh"))
		back, backCode := checkSubst(t, there, "fresh", id(name))
		if code != impl.OK || backCode != impl.OK || !sameTree(back, x) {
			t.Fatalf("%s in %s: %s, and back: %s", name, written(x), written(there), written(back))
		}
	}
}

// A name as long as it may be that is called anew.
func TestNamesThatGrow(t *testing.T) {
	letters := func(count int) string { return strings.Repeat("y", count) }
	catching := func(name string) impl.Tree { return lam(name, app(id("x"), id(name))) }
	called := func(name string, anew string) impl.Tree { return lam(anew, app(id(name), id(anew))) }
	wantCalled := func(name string, x impl.Tree, want impl.Tree) {
		t.Helper()
		if put, code := checkSubst(t, x, "x", id(name)); code != impl.OK || !sameTree(put, want) {
			t.Errorf("%s, %d", written(put), code)
		}
	}
	wantLong := func(name string, x impl.Tree) {
		t.Helper()
		if _, code := checkSubst(t, x, "x", id(name)); code != impl.ErrFull {
			t.Errorf("%s: %d", name, code)
		}
		noSubst(t, name, x, "x", id(name), impl.ErrFull)
	}
	most := letters(impl.MaxName)
	wantLong(most, catching(most))
	wantLong(most, let(most, id("x"), id("x")))
	// It need not be called anew.
	wantCalled(most, let(most, id("x"), id(most)), let(most, id(most), id(most)))
	wantCalled(most, app(lam(most, id(most)), id("x")), app(lam(most, id(most)), id(most)))
	one := letters(impl.MaxName - 1)
	wantCalled(one, catching(one), called(one, one+"1"))
	wantCalled(one+"1", catching(one+"1"), called(one+"1", one+"2"))
	wantCalled(one+"9", catching(one+"9"), called(one+"9", one+"1"))
	// Nine of them go, and the tenth does not.
	list := slices.Repeat([]impl.Tree{catching(one)}, 9)
	var want []impl.Tree
	for i := range list {
		want = append(want, called(one, one+strconv.Itoa(i+1)))
	}
	wantCalled(one, apps(list), apps(want))
	wantLong(one, apps(append(list, catching(one))))
	// Digits of a long name are left out.
	digits := "y" + strings.Repeat("9", impl.MaxName-1)
	wantCalled(digits, catching(digits), called(digits, "y1"))
	within := "y1" + letters(impl.MaxName-2)
	wantLong(within, catching(within))
}

func TestWhatComesIsTooLarge(t *testing.T) {
	// rest has 2 * count - 1 trees.
	rest := func(count int) impl.Tree { return apps(slices.Repeat([]impl.Tree{leaf("Num", "1")}, count)) }
	for _, x := range []struct {
		why   string
		t     impl.Tree
		u     string
		nodes int
		want  int
	}{
		{"just as large as it may be", app(id("x"), rest(498)), `(If 1 2 3)`, impl.MaxNodes, impl.OK},
		{"one too large", app(id("x"), rest(498)), `(Add 1 (Add 2 3))`, impl.MaxNodes + 1, impl.ErrFull},
		{"just as large as it may be, in two places", node("If", id("x"), rest(496), id("x")), `(Let y 1 2)`, impl.MaxNodes, impl.OK},
		{"too large in two places", node("If", id("x"), rest(496), id("x")), `(Lam y (Lam z 1))`, impl.MaxNodes + 2, impl.ErrFull},
		{"as large as before", app(id("x"), rest(499)), `y`, impl.MaxNodes - 1, impl.OK},
		{"large where nothing comes", app(id("y"), rest(499)), `(Add 1 (Add 2 3))`, impl.MaxNodes - 1, impl.OK},
		{"large, called anew", app(lam("y", id("x")), rest(497)), `(App y 1)`, impl.MaxNodes - 1, impl.OK},
	} {
		put, code := checkSubst(t, x.t, "x", term(x.u))
		if code != x.want || code == impl.OK && len(pathsOf(put)) != x.nodes {
			t.Errorf("%s: %d nodes, %d", x.why, len(pathsOf(put)), code)
		}
	}
	// What would have some hundred thousands.
	half := slices.Repeat([]impl.Tree{id("x")}, impl.MaxNodes/2)
	large := apps(slices.Repeat([]impl.Tree{id("y")}, impl.MaxNodes/2))
	noSubst(t, "very large", apps(half), "x", large, impl.ErrFull)
	checkSubst(t, id("x"), "x", large)
	checkSubst(t, apps(half), "x", id("y"))
	checkSubst(t, apps(half), "y", large)
}

func TestWhatComesIsTooDeep(t *testing.T) {
	deepTerm := func(depth int, low impl.Tree) impl.Tree {
		for range depth {
			low = lam("z", low)
		}
		return low
	}
	for above := range impl.MaxDepth {
		x := deepTerm(above, id("x"))
		if _, code := checkSubst(t, x, "x", deepTerm(impl.MaxDepth-above-1, id("y"))); code != impl.OK {
			t.Errorf("%d above: %d", above, code)
		}
		if above > 0 {
			noSubst(t, strconv.Itoa(above)+" above", x, "x", deepTerm(impl.MaxDepth-above, id("y")), impl.ErrFull)
		}
	}
	x := app(id("x"), deepTerm(impl.MaxDepth-2, id("x")))
	if _, code := checkSubst(t, x, "x", id("w")); code != impl.OK {
		t.Error(code)
	}
	noSubst(t, "too deep in one place of two", x, "x", term(`(Lam z 1)`), impl.ErrFull)
	checkSubst(t, x, "z", deepTerm(impl.MaxDepth-1, id("x")))
}

func TestSubstOfWrongInputs(t *testing.T) {
	x := term(`(Lam y (App x y))`)
	for _, name := range noNames {
		noSubst(t, "no name", x, name, id("y"), impl.ErrBad)
	}
	for _, name := range []string{"x", "Lam", "Id", "x_", "X9", strings.Repeat("x", impl.MaxName)} {
		checkSubst(t, x, name, id("y"))
	}
	// ErrBad comes ahead of ErrFull.
	low := id("x")
	for range impl.MaxDepth - 1 {
		low = lam("z", low)
	}
	noSubst(t, "too deep", low, "x", x, impl.ErrFull)
	noSubst(t, "too deep, and no name", low, "1", x, impl.ErrBad)
	noSubst(t, "too deep, and no term", low, "x", app(x, id("1")), impl.ErrBad)
	for why, wrong := range wrongTrees() {
		noSubst(t, why, wrong, "x", id("y"), impl.ErrBad)
		noSubst(t, why, id("x"), "x", wrong, impl.ErrBad)
		noSubst(t, why, wrong, "", wrong, impl.ErrBad)
	}
	noSubst(t, "nothing", impl.Tree{}, "", impl.Tree{}, impl.ErrBad)
}

// Nothing is written into what Subst is given, nor behind it, and nothing of it is in what it answers.
func TestSubstKeepsAndSharesNothing(t *testing.T) {
	for _, given := range []struct{ t, u string }{
		{`(Lam y (App (App x y) (Let z x (Add x z))))`, `(App y (Lam w (Add w z)))`},
		{`(Lam y (App z y))`, `(App y 1)`},
		{`x`, `(Lam y (App y 1))`},
	} {
		x, u := roomy(term(given.t)), roomy(term(given.u))
		xBefore, uBefore := copyTree(x), copyTree(u)
		unchanged := func(why string) {
			t.Helper()
			if !sameTree(x, xBefore) || !sameTree(u, uBefore) || !sparesKept(x) || !sparesKept(u) {
				t.Fatal(why, "changed what it was given")
			}
		}
		put, _ := checkSubst(t, x, "x", u)
		unchanged("Subst")
		again := copyTree(put)
		// Each Kid spoilt leaves the others.
		for _, path := range pathsOf(put) {
			other, _ := impl.Subst(x, "x", u)
			spoil(under(other, path))
			for _, kept := range pathsOf(again) {
				if !begins(kept, path) && !begins(path, kept) && !sameTree(under(other, kept), under(again, kept)) {
					t.Fatal("two places share memory")
				}
			}
		}
		spoil(put)
		unchanged("spoiling what came")
	}
}
