package tests

import (
	"math/rand"
	"slices"
	"strconv"
	"strings"
	"testing"

	"loop.example/g00037/impl"
)

// spoiltTerm is x with another term at one place.
func spoiltTerm(r *rand.Rand, x impl.Tree) impl.Tree {
	n := namingOf(x)
	var places [][]int
	for _, path := range pathsOf(x) {
		if !slices.ContainsFunc(n.nodes, func(node []int) bool { return slices.Equal(ownX(node), path) }) {
			places = append(places, path)
		}
	}
	u := oneOf(r, id("x"), id("y"), id("z"), id("q"), leaf("Num", "1"), leaf("Yes", ""), lam("x", id("x")), someTerm(r, 3))
	return putBy(x, oneOf(r, places...), u)
}

// Terms that have a type, those with one place spoilt, and any.
func TestTypesOfManyTerms(t *testing.T) {
	r := rand.New(rand.NewSource(21))
	met := map[string]int{}
	check := func(x impl.Tree) int {
		is, path, code := checkType(t, x)
		switch {
		case code == impl.OK && len(variablesIn(is)) > 1:
			met["several variables"]++
		case code == impl.OK:
			met["has a type"]++
		case code == impl.ErrType && len(path) > 2:
			met["no type, deep within"]++
		case code == impl.ErrType:
			met["no type"]++
		case code == impl.ErrUndef:
			met["declared nowhere"]++
		default:
			t.Fatalf("%s: %v, %d", written(x), path, code)
		}
		return code
	}
	for range 6000 {
		x := someTyped(r, someKind(r, 3), nil, 1+r.Intn(6))
		if len(pathsOf(x)) > 150 {
			continue
		}
		if code := check(x); code != impl.OK {
			t.Fatalf("%s has a type, and not %d", written(x), code)
		}
		check(spoiltTerm(r, x))
	}
	for range 6000 {
		x := someTerm(r, 1+r.Intn(4))
		check(x)
		// With its free names declared around it.
		for _, name := range []string{"x", "y", "y1", "z", "y2", "x1", "y12"} {
			x = lam(name, x)
		}
		check(x)
	}
	for _, kind := range []string{"several variables", "has a type", "no type, deep within", "no type", "declared nowhere"} {
		if met[kind] < 300 {
			t.Errorf("%s: only %d", kind, met[kind])
		}
	}
}

// smallTerms are terms of two names and two other leaves, at most three deep: all Lams of smaller ones, and some of each other form, the same in each run.
func smallTerms() []impl.Tree {
	leaves := []impl.Tree{id("x"), id("y"), leaf("Num", "1"), leaf("Yes", "")}
	all := slices.Clone(leaves)
	for range 2 {
		next := slices.Clone(leaves)
		for i, a := range all {
			next = append(next, lam("x", a), lam("y", a))
			for k, b := range all {
				if (i+k)%3 == 0 || i < 12 && k < 12 {
					next = append(next, app(a, b), let("x", a, b))
				}
				if (i+k)%17 == 0 {
					next = append(next, node("Add", a, b), node("Eq", a, b), node("If", id("x"), a, b), node("If", a, id("y"), b))
				}
			}
		}
		all = next
	}
	return all
}

func TestTypesOfSmallTerms(t *testing.T) {
	good := 0
	for _, x := range smallTerms() {
		checkType(t, x)
		// Declared by Lams, by Lets, and by both.
		checkType(t, lam("y", lam("x", x)))
		_, _, code := checkType(t, let("y", lam("x", id("x")), lam("x", x)))
		good += oneFor(code == impl.OK)
	}
	if good < 500 {
		t.Errorf("only %d have a type", good)
	}
}

// Promise 21.
func TestTypesAreKept(t *testing.T) {
	for _, x := range []struct {
		why, term  string
		came, more int
	}{
		{"a Let", `(Let x 1 (Add x x))`, 1, 0},
		{"an applied Lam", `(App (Lam x (Add x x)) 1)`, 1, 0},
		{"nothing to be done", `(Lam x (App x 1))`, 0, 0},
		{"a Let at two types", `(Let i (Lam x x) (If (App i Yes) (App i 1) 2))`, 1, 0},
		{"a Let whose x is not referred to", `(Lam y (Let x (Add y 1) 2))`, 1, 1},
		{"an applied Lam whose x is not referred to", `(Lam y (App (Lam x 2) (Add y 1)))`, 1, 1},
		{"an applied Lam, at several places each its own", `(App (Lam i (Lam f (App (App f i) i))) (Lam x x))`, 1, 1},
		{"a name that would be caught", `(Lam y (Let x y (Lam y (If (Eq y 1) x x))))`, 1, 0},
		{"a name that would be caught, applied", `(Lam y (App (Lam x (Lam y (App x y))) (Lam z y)))`, 1, 0},
		{"one within the other", `(Let f (Lam x (Let y x (Add y 1))) (App f 2))`, 2, 0},
		{"one within the other, applied", `(App (Lam f (App (Lam x (App f x)) 1)) (Lam z (App (Lam w w) z)))`, 3, 0},
		{"what it says of names around it", `(Lam f (Let g (Lam y (App f y)) (App g 1)))`, 1, 0},
	} {
		if came, more := keepsType(t, term(x.term)); came != x.came || more != x.more {
			t.Errorf("%s: %d came, %d of them more general", x.why, came, more)
		}
	}
	r := rand.New(rand.NewSource(211))
	all, allMore := 0, 0
	for range 8000 {
		came, more := keepsType(t, someTyped(r, someKind(r, 3), nil, 1+r.Intn(7)))
		all, allMore = all+came, allMore+more
	}
	for _, x := range smallTerms() {
		for _, whole := range []impl.Tree{lam("y", lam("x", x)), let("y", lam("x", id("x")), lam("x", x))} {
			if _, _, code := impl.TypeOf(whole); code == impl.OK {
				came, more := keepsType(t, whole)
				all, allMore = all+came, allMore+more
			}
		}
	}
	if all < 10000 || allMore < 100 {
		t.Errorf("only %d came, %d of them more general", all, allMore)
	}
}

// All that can be done is done, one after the other: the type stays until there is neither a Let nor an applied Lam.
func TestTypesAreKeptToTheEnd(t *testing.T) {
	r := rand.New(rand.NewSource(212))
	ended := 0
	for range 600 {
		x := someTyped(r, someKind(r, 2), nil, 5)
		first, _, _ := impl.TypeOf(x)
		for range 60 {
			list := doneAt(x)
			if len(list) == 0 {
				break
			}
			x = oneOf(r, list...)
			if is, path, code := impl.TypeOf(x); code == impl.ErrFull || len(pathsOf(x)) > 300 {
				break
			} else if code != impl.OK || !isAs(t, is, first) {
				t.Fatalf("%s is %s, %v, %d and was %s", written(x), written(is), path, code, written(first))
			}
		}
		ended += oneFor(len(doneAt(x)) == 0)
	}
	if ended < 300 {
		t.Errorf("only %d came to an end", ended)
	}
}

func TestTypesOfWhatIsNoTerm(t *testing.T) {
	noTermType := func(why string, x impl.Tree) {
		t.Helper()
		if is, path, code := impl.TypeOf(x); code != impl.ErrBad || len(path) != 0 || !sameTree(is, impl.Tree{}) {
			t.Errorf("%s: %.100s, %v, %d", why, written(is), path, code)
		}
	}
	for _, text := range []string{
		`Num"01"`, `Num""`, `Num"1234567890"`, `Yes"x"`, `Id""`, `Id"1"`, `Var"a"`, `Int""`, `Bool""`, `Lam"x"`, `(Id)`, `(Num)`, `(Mul)`, `(Fun Id"x" Id"x")`,
		`(Lam Id"x")`, `(Lam Id"x" Id"x" Id"x")`, `(Lam Num"1" Id"x")`, `(Lam (Lam Id"x" Id"x") Id"x")`, `(Let Num"1" Num"1" Num"1")`, `(Let Id"x" Num"1")`,
		`(App Num"1")`, `(If Yes"" Num"1")`, `(Add Num"1" Num"2" Num"3")`, `(Eq)`,
		// Beside faults of other kinds.
		`(App Num"1" (Mul))`, `(Add Id"q" Num"01")`, `(App (App Num"1" Num"2") Yes"x")`, `(Let Id"x" (App Num"1" Num"2") (Lam Id"1" Id"x"))`,
	} {
		noTermType(text, tree(text))
		noTermType(text+", in a Lam", lam("x", tree(text)))
	}
	for why, wrong := range wrongTrees() {
		noTermType(why, wrong)
		noTermType(why+", within a term", app(id("x"), wrong))
	}
	noTermType("too many", apps(slices.Repeat([]impl.Tree{id("x")}, impl.MaxNodes/2+1)))
}

// Terms as large and as deep as they may be.
func TestTypesOfLargeTerms(t *testing.T) {
	numbers := slices.Repeat([]impl.Tree{leaf("Num", "1")}, impl.MaxNodes/2)
	sum := func(list []impl.Tree) impl.Tree {
		for len(list) > 1 {
			var next []impl.Tree
			for i := 0; i+1 < len(list); i += 2 {
				next = append(next, node("Add", list[i], list[i+1]))
			}
			list = append(next, list[len(list)/2*2:]...)
		}
		return list[0]
	}
	if is, path, code := impl.TypeOf(sum(numbers)); code != impl.OK || len(path) != 0 || written(is) != `Int""` {
		t.Error(written(is), path, code)
	}
	// The last of all is wrong.
	numbers[len(numbers)-1] = leaf("Yes", "")
	_, path, code := impl.TypeOf(sum(numbers))
	if at := under(sum(numbers), path); code != impl.ErrType || written(at.Kids[1]) != `Yes""` {
		t.Error(path, code)
	}
	// As deep as it may be: the deepest Id.
	low := id("q")
	var want []int
	for range impl.MaxDepth - 1 {
		low, want = lam("x", low), append(want, 1)
	}
	if _, path, code := impl.TypeOf(low); code != impl.ErrUndef || !slices.Equal(path, want) {
		t.Error(path, code)
	}
	// Lets that each take the one ahead twice, which would grow without an end.
	text := "f40"
	for i := 40; i > 0; i-- {
		text = "(Let f" + strconv.Itoa(i) + " (Lam x (Let y (If Yes x f" + strconv.Itoa(i-1) + ") f" + strconv.Itoa(i-1) + ")) " + text + ")"
	}
	wantFullType(t, "twofold forty times", "(Let f0 1 "+text+")")
	// The same by one Let alone, that is applied to what it gave.
	wantFullType(t, "twofold by Apps", "(Let d (Lam x (Lam f (App (App f x) x))) (Lam g "+strings.Repeat("(App d ", 40)+"g"+strings.Repeat(")", 40)+"))")
	// A name with many large types in its own, that is not referred to again until its Lam.
	many := "(App p u)"
	for range 48 {
		many = "(App " + many + " u)"
	}
	wantFullType(t, "a name with many large types", "(Let u "+typeSized(63)+" (Lam p "+many+"))")
	wantFaultAt(t, "a name with many large types, and a fault", "(Let u "+typeSized(63)+" (Lam p (Add q "+many+")))", impl.ErrUndef, 2, 1, 0)
}

// Nothing is written into what TypeOf is given, nor behind it, and nothing of it is in what it answers.
func TestTypeOfSharesNothing(t *testing.T) {
	for _, text := range []string{
		`(Let f (Lam x (Lam y (Lam z (If x y y)))) (Lam g (App (App g f) (App f Yes))))`,
		`(Lam x (Let y x (Lam f (App (App f y) x))))`,
	} {
		x := roomy(term(text))
		before := copyTree(x)
		is, _, code := checkType(t, x)
		if code != impl.OK || !sameTree(x, before) || !sparesKept(x) {
			t.Fatal("TypeOf changed what it was given")
		}
		for _, path := range pathsOf(is) {
			other, _, _ := impl.TypeOf(x)
			spoil(under(other, path))
			for _, kept := range pathsOf(is) {
				if !begins(kept, path) && !begins(path, kept) && !sameTree(under(other, kept), under(is, kept)) {
					t.Fatal("two places share memory")
				}
			}
		}
		spoil(is)
		if again, _, _ := checkType(t, x); !sameTree(x, before) || !sparesKept(x) || !impl.TreeOK(again) {
			t.Fatal("spoiling a type changed what was given")
		}
	}
	wrong := roomy(term(`(Lam x (If (Eq x 1) (If x 1 2) 3))`))
	before := copyTree(wrong)
	_, path, _ := checkType(t, wrong)
	for i := range path[:cap(path)] {
		path[:cap(path)][i] = -7
	}
	if _, again, code := checkType(t, wrong); code != impl.ErrType || !slices.Equal(again, []int{1, 1}) || !sameTree(wrong, before) || !sparesKept(wrong) {
		t.Error(again, code)
	}
}
