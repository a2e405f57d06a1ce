package tests

import (
	"slices"
	"strconv"
	"strings"
	"testing"

	"loop.example/g00037/impl"
)

func TestTypeOf(t *testing.T) {
	for _, x := range []struct{ why, term, want string }{
		{"a number", `0`, `Int`},
		{"a long number", `123456789`, `Int`},
		{"yes", `Yes`, `Bool`},
		{"no", `No`, `Bool`},
		{"a sum", `(Add 1 2)`, `Int`},
		{"a sum of sums", `(Add (Add 1 2) (Add 3 (Add 4 5)))`, `Int`},
		{"what is equal", `(Eq 1 2)`, `Bool`},
		{"what is equal, of sums", `(Eq (Add 1 2) 3)`, `Bool`},
		{"a choice", `(If Yes 1 2)`, `Int`},
		{"a choice by what is equal", `(If (Eq 1 1) No Yes)`, `Bool`},
		{"a choice of choices", `(If (If Yes No Yes) (If No 1 2) (Add 3 4))`, `Int`},
		{"a choice of Lams", `(If Yes (Lam x x) (Lam y 1))`, `(Fun Int Int)`},
		// Lams.
		{"a Lam", `(Lam x x)`, `(Fun a a)`},
		{"a Lam whose x is not referred to", `(Lam x 1)`, `(Fun a Int)`},
		{"two Lams whose x is not referred to", `(Lam x (Lam y Yes))`, `(Fun a (Fun b Bool))`},
		{"a Lam in a Lam", `(Lam x (Lam y x))`, `(Fun a (Fun b a))`},
		{"a Lam in a Lam, the inner one", `(Lam x (Lam y y))`, `(Fun a (Fun b b))`},
		{"a Lam in a Lam with the same name", `(Lam x (Lam x x))`, `(Fun a (Fun b b))`},
		{"a Lam in a Lam with the same name, the outer one a number", `(Lam x (If (Eq x 1) (Lam x x) (Lam x x)))`, `(Fun Int (Fun a a))`},
		{"a Lam in a Lam with the same name, the inner one a number", `(Lam x (If x (Lam x (Add x 1)) (Lam x 2)))`, `(Fun Bool (Fun Int Int))`},
		{"behind a Lam with the same name", `(Lam x (If (App (Lam x (Eq x 1)) 2) x Yes))`, `(Fun Bool Bool)`},
		{"x is a number", `(Lam x (Add x 1))`, `(Fun Int Int)`},
		{"x is a number, at the second", `(Lam x (Add 1 x))`, `(Fun Int Int)`},
		{"x is a number by Eq", `(Lam x (Eq x x))`, `(Fun Int Bool)`},
		{"x is a flag", `(Lam x (If x 1 2))`, `(Fun Bool Int)`},
		{"x is as another", `(Lam x (Lam y (If Yes x y)))`, `(Fun a (Fun a a))`},
		{"x is as another, which is a number", `(Lam x (Lam y (If (Eq y 1) x y)))`, `(Fun Int (Fun Int Int))`},
		{"a choice by x of others", `(Lam x (Lam y (Lam z (If x y z))))`, `(Fun Bool (Fun a (Fun a a)))`},
		{"a choice of what no one asks for", `(Lam x (Lam y (Lam z y)))`, `(Fun a (Fun b (Fun c b)))`},
		// Apps.
		{"an applied Lam", `(App (Lam x (Add x 1)) 2)`, `Int`},
		{"an applied Lam whose x is not referred to", `(App (Lam x 1) Yes)`, `Int`},
		{"a Lam applied to itself", `(App (Lam x x) (Lam x x))`, `(Fun a a)`},
		{"x is applied", `(Lam f (App f 1))`, `(Fun (Fun Int a) a)`},
		{"x is applied to what it gives", `(Lam f (Lam x (App f (App f x))))`, `(Fun (Fun a a) (Fun a a))`},
		{"x is applied to two", `(Lam f (App (App f 1) Yes))`, `(Fun (Fun Int (Fun Bool a)) a)`},
		{"one behind the other", `(Lam f (Lam g (Lam x (App f (App g x)))))`, `(Fun (Fun a b) (Fun (Fun c a) (Fun c b)))`},
		{"S", `(Lam f (Lam g (Lam x (App (App f x) (App g x)))))`, `(Fun (Fun a (Fun b c)) (Fun (Fun a b) (Fun a c)))`},
		{"S K K", `(App (App (Lam f (Lam g (Lam x (App (App f x) (App g x))))) (Lam x (Lam y x))) (Lam x (Lam y x)))`, `(Fun a a)`},
		{"turned", `(Lam f (Lam x (Lam y (App (App f y) x))))`, `(Fun (Fun a (Fun b c)) (Fun b (Fun a c)))`},
		{"partly applied", `(App (Lam x (Lam y (Add x y))) 1)`, `(Fun Int Int)`},
		{"what is given is applied", `(App (App (Lam f (Lam x (App f x))) (Lam y (Eq y 0))) 3)`, `Bool`},
		{"one that takes a Lam", `(App (Lam f (App f (App f 1))) (Lam x (Add x x)))`, `Int`},
		// Lets.
		{"a Let", `(Let x 1 x)`, `Int`},
		{"a Let whose x is not referred to", `(Let x 1 Yes)`, `Bool`},
		{"a Let in a Let with the same name", `(Let x 1 (Let x (Eq x 1) x))`, `Bool`},
		{"a Let in the a of another", `(Let x (Let y 1 (Add y y)) (Eq x x))`, `Bool`},
		{"a name of a Let that a Lam declares anew", `(Let x 1 (Lam x (If x 1 2)))`, `(Fun Bool Int)`},
		{"a name of a Lam that a Let declares anew", `(Lam x (Let x (Add x 1) (Eq x 2)))`, `(Fun Int Bool)`},
		{"what a Let says of what is around counts where x is not referred to", `(Lam x (Let y (Add x 1) 2))`, `(Fun Int Int)`},
		{"a Let of a Lam", `(Let f (Lam x (Add x 1)) f)`, `(Fun Int Int)`},
		// All forms, one within the other.
		{"all forms", `(Let f (Lam n (If (Eq n 0) Yes No)) (App (Lam g (If (App g 1) (Add 1 2) 3)) f))`, `Int`},
		{"each form in a Lam", `(Lam x (Lam y (Let z (App x y) (If (Eq z 1) (Add z 2) z))))`, `(Fun (Fun a Int) (Fun a Int))`},
		{"names of terms", `(Lam lam (Lam if (App lam if)))`, `(Fun (Fun a b) (Fun a b))`},
	} {
		wantType(t, x.why, x.term, x.want)
	}
	// Names that are those of types, and of trees.
	for _, name := range []string{"Int", "Bool", "Fun", "Var", "Id", "X", "a", strings.Repeat("x", impl.MaxName)} {
		if is, path, code := checkType(t, lam(name, id(name))); code != impl.OK || len(path) != 0 || !sameTree(is, kind(`(Fun a a)`)) {
			t.Error(name, written(is), path, code)
		}
	}
}

// The variables of what a Let's a is are taken anew at each place, but those in types of names around it.
func TestTypesOfLets(t *testing.T) {
	for _, x := range []struct{ why, term, want string }{
		{"at two types", `(Let i (Lam x x) (If (App i Yes) (App i 1) 2))`, `Int`},
		{"applied to itself", `(Let i (Lam x x) (App i i))`, `(Fun a a)`},
		{"applied to itself again and again", `(Let i (Lam x x) (App (App (App i i) (App i i)) (App i 1)))`, `Int`},
		{"each place has its own", `(Let k (Lam x (Lam y x)) (Lam p (Lam q (If (App (App k Yes) p) (App (App k p) q) p))))`, `(Fun a (Fun b a))`},
		{"two variables", `(Let k (Lam x (Lam y x)) (App (App k 1) (App (App k Yes) 2)))`, `Int`},
		{"a Let of a Let's name", `(Let i (Lam x x) (Let j i (If (App j Yes) (App j 1) (App i 2))))`, `Int`},
		{"a Let of a Let's name, applied", `(Let i (Lam x x) (Let j (App i i) (If (App j Yes) (App j 1) 2)))`, `Int`},
		{"a Let in the a of another", `(Let f (Let g (Lam x x) (Lam y (App g y))) (If (App f Yes) (App f 1) 2))`, `Int`},
		{"partly a number", `(Let f (Lam x (Lam y (Add x 1))) (If (Eq (App (App f 1) Yes) 2) (App (App f 2) 3) 4))`, `Int`},
		{"within a Lam, with nothing of it", `(Lam p (Let i (Lam x x) (If (App i Yes) (App i p) p)))`, `(Fun a a)`},
		{"within a Lam, with the same name in it", `(Lam x (Let i (Lam x x) (If (App i Yes) (App i x) x)))`, `(Fun a a)`},
		{"two places in what comes", `(Let i (Lam x x) (Lam f (App (App f i) i)))`, `(Fun (Fun (Fun a a) (Fun (Fun b b) c)) c)`},
		{"no place", `(Let i (Lam x x) (Lam y 1))`, `(Fun a Int)`},
		// Those of a name around it are not taken anew.
		{"a name of a Lam", `(Lam x (Let y x y))`, `(Fun a a)`},
		{"a name of a Lam, at two places", `(Lam x (Let y x (If Yes y y)))`, `(Fun a a)`},
		{"a name of a Lam, which becomes a number at one", `(Lam x (Let y x (If (Eq y 1) x y)))`, `(Fun Int Int)`},
		{"a name of a Lam, which becomes a number later", `(Lam x (Let y x (Let z (Add x 1) y)))`, `(Fun Int Int)`},
		{"what a name of a Lam gives", `(Lam f (Let y (App f 1) (If y y y)))`, `(Fun (Fun Int Bool) Bool)`},
		{"one of both sorts", `(Lam p (Let k (Lam x p) (If (App k 1) (App k Yes) p)))`, `(Fun Bool Bool)`},
		{"one of both sorts, the own one at two types", `(Lam p (Let k (Lam x (Lam y (If Yes x p))) (Lam q (If (Eq 1 1) (App (App k q) 1) (App (App k p) Yes)))))`, `(Fun a (Fun a a))`},
		{"a pair of both sorts", `(Lam p (Let k (Lam x (Lam f (App (App f p) x))) (Lam g (Lam h (If (Eq (App (App k 1) g) 2) (App (App k Yes) h) 3)))))`, `(Fun a (Fun (Fun a (Fun Int Int)) (Fun (Fun a (Fun Bool Int)) Int)))`},
		{"what a name of a Lam takes", `(Lam f (Let g (Lam y (App f y)) (Add (App g 1) (App g 2))))`, `(Fun (Fun Int Int) Int)`},
		{"through a Let between", `(Lam x (Let y x (Let z y (Let w z (If w x y)))))`, `(Fun Bool Bool)`},
		{"through a Let's own type between", `(Lam x (Let f (Lam y x) (Let g (Lam z (App f z)) (If (App g 1) (App g Yes) No))))`, `(Fun Bool Bool)`},
		{"a name around that is declared anew", `(Lam x (Let y x (Lam x (Let z y (If z z z)))))`, `(Fun Bool (Fun a Bool))`},
		{"a name of a Lam in the b is not around the a", `(Let i (Lam x x) (Lam i2 (If (App i Yes) (App i i2) i2)))`, `(Fun a a)`},
		{"of a Lam that is done ahead", `(App (App (Lam x (Lam y y)) (Lam z z)) (Let i (Lam z z) (If (App i Yes) (App i i) i)))`, `(Fun a a)`},
		{"in the a of a Let it is not taken anew, behind it is", `(Let f (Lam g (Let h g (Lam x (App h (App h x))))) (If (App (App f (Lam y No)) Yes) (App (App f (Lam y 1)) 2) 3))`, `Int`},
	} {
		wantType(t, x.why, x.term, x.want)
	}
	for _, x := range []struct {
		why, term string
		path      []int
	}{
		{"a name of a Lam at two types", `(Lam i (If (App i Yes) (App i 1) 2))`, []int{1, 1}},
		{"a name of a Lam through a Let", `(Lam i (Let j i (If (App j Yes) (App j 1) 2)))`, []int{1, 2, 1}},
		{"a name of a Lam through a Lam in a Let", `(Lam i (Let j (Lam y (App i y)) (If (App j Yes) (App j 1) 2)))`, []int{1, 2, 1}},
		{"a name of a Lam through two Lets", `(Lam i (Let j (Lam y (App i y)) (Let k j (If (App k Yes) (App k 1) 2))))`, []int{1, 2, 2, 1}},
		{"what a name of a Lam gives", `(Lam f (Let y (App f 1) (If y (Add y 1) 2)))`, []int{1, 2}},
		{"a name of a Lam that is declared anew behind", `(Lam x (Let y x (Lam x (If y (Add y 1) 2))))`, []int{1, 2, 1}},
		{"an applied Lam is no Let", `(App (Lam i (If (App i Yes) (App i 1) 2)) (Lam x x))`, []int{0, 1, 1}},
		{"the own one is, the other is not", `(Lam p (Let k (Lam x p) (If (App k 1) (Add (App k Yes) 1) 2)))`, []int{1, 2}},
		{"it is not its own", `(Let f (Lam x (App x x)) 1)`, []int{1, 1}},
	} {
		noType(t, x.why, x.term, impl.ErrType, x.path...)
	}
}

// What a Let's a is must be there also where its x is referred to nowhere: each node is gone through.
func TestLetsWhoseAHasNoType(t *testing.T) {
	noType(t, "nowhere", `(Let x (App 1 2) 3)`, impl.ErrType, 1)
	noType(t, "nowhere, within", `(Let x (Lam y (Add y (If y 1 2))) 3)`, impl.ErrType, 1, 1)
	noType(t, "nowhere, an Id", `(Let x q 3)`, impl.ErrUndef, 1)
	noType(t, "nowhere, its own x", `(Let x x 3)`, impl.ErrUndef, 1)
	noType(t, "somewhere", `(Let x (App 1 2) x)`, impl.ErrType, 1)
	noType(t, "a ahead of b", `(Let x (App 1 2) q)`, impl.ErrType, 1)
	noType(t, "a ahead of b, the other way round", `(Let x q (App 1 2))`, impl.ErrUndef, 1)
	noType(t, "b, where a has one", `(Let x 1 (App x 2))`, impl.ErrType, 2)
	wantFullType(t, "nowhere, too large", "(Let x "+typeSized(1001)+" q)")
}

func TestNodesThatHaveNoType(t *testing.T) {
	for _, x := range []struct {
		why, term string
		path      []int
	}{
		{"a number is applied", `(App 1 2)`, nil},
		{"a flag is applied", `(App Yes 2)`, nil},
		{"a sum is applied", `(App (Add 1 2) 3)`, nil},
		{"to what it does not take", `(App (Lam x (Add x 1)) Yes)`, nil},
		{"to what it does not take, a Lam", `(App (Lam x (Add x 1)) (Lam y y))`, nil},
		{"to more than it takes", `(App (App (Lam x (Add x 1)) 2) 3)`, nil},
		{"a Lam takes no number", `(App (Lam f (App f 1)) 2)`, nil},
		{"a flag is added", `(Add Yes 1)`, nil},
		{"a flag is added, at the second", `(Add 1 No)`, nil},
		{"a Lam is added", `(Add (Lam x x) 1)`, nil},
		{"flags are equal", `(Eq Yes No)`, nil},
		{"a flag and a number are equal", `(Eq 1 No)`, nil},
		{"a choice by a number", `(If 1 2 3)`, nil},
		{"a choice by a Lam", `(If (Lam x x) 2 3)`, nil},
		{"a choice of a number and a flag", `(If Yes 1 No)`, nil},
		{"a choice of a Lam and a number", `(If Yes (Lam x x) 1)`, nil},
		{"a choice of Lams that part", `(If Yes (Lam x (Add x 1)) (Lam x (If x 1 2)))`, nil},
		{"a choice of Lams that part in what they give", `(If Yes (Lam x 1) (Lam x No))`, nil},
		// Where it is.
		{"in the first Kid", `(Add (App 1 2) 3)`, []int{0}},
		{"in the second Kid", `(Add 3 (App 1 2))`, []int{1}},
		{"in the third Kid", `(If Yes 1 (Add No 1))`, []int{2}},
		{"in a Lam", `(Lam x (Add Yes x))`, []int{1}},
		{"in a Lam in a Lam", `(Lam x (Lam y (App 1 x)))`, []int{1, 1}},
		{"in the a of a Let", `(Let x (Eq No 1) x)`, []int{1}},
		{"in the b of a Let", `(Let x 1 (Add x No))`, []int{2}},
		{"deep within", `(If (Eq 1 2) (App (Lam x (Let y x (Add y Yes))) 1) 2)`, []int{1, 0, 1, 2}},
		{"by what is said of x ahead of it", `(Lam x (If (Eq x 1) (If x 1 2) 3))`, []int{1, 1}},
		{"by what is said of x ahead of it, the other way round", `(Lam x (If (If x Yes No) (Add x 1) 3))`, []int{1, 1}},
		{"Add says that x is a number behind its Kids, where that is applied", `(Lam x (Add x (App x 1)))`, []int{1}},
		{"where x is applied first, and a number later", `(Lam x (Add (App x 1) x))`, []int{1}},
		{"at the App, not at the Lam", `(App (Lam x (Add x 1)) (Eq 1 2))`, nil},
		// Each node behind its Kids.
		{"a Kid ahead of the node", `(If 1 (Add Yes 1) 2)`, []int{1}},
		{"the first of two Kids", `(Add (Add Yes 1) (Add No 1))`, []int{0}},
		{"the second of two Kids, when the first is right", `(Add (Add 2 1) (Add No 1))`, []int{1}},
		{"a Kid's Kid ahead of a second Kid", `(Add (Add 1 (Add Yes 1)) (Add No 1))`, []int{0, 1}},
		{"a Kid of the second Kid behind the first", `(Add (App 1 2) (Add (Add No 1) 1))`, []int{0}},
		{"the last Kid ahead of the node", `(App 1 (If 1 2 3))`, []int{1}},
		// A type that would have to stand within itself.
		{"within itself", `(Lam x (App x x))`, []int{1}},
		{"within itself, through another", `(Lam x (Lam y (If (Eq (App x y) 1) (App y x) 2)))`, []int{1, 1, 1}},
		{"within itself, as a choice", `(Lam f (Lam x (If Yes f (App f x))))`, []int{1, 1}},
		{"within itself, as a choice with a Lam of it", `(Lam f (If Yes f (Lam x f)))`, []int{1}},
		{"within itself, by a Let of it", `(Lam x (Let y x (App y x)))`, []int{1, 2}},
		{"within itself, by what it gives", `(Lam f (App f (Lam x (App f x))))`, []int{1}},
	} {
		noType(t, x.why, x.term, impl.ErrType, x.path...)
	}
}

func TestIdsThatAreDeclaredNowhere(t *testing.T) {
	for _, x := range []struct {
		why, term string
		path      []int
	}{
		{"alone", `q`, nil},
		{"in a Lam", `(Lam x y)`, []int{1}},
		{"in a Lam, another letter", `(Lam x xx)`, []int{1}},
		{"the x of a Lam beside", `(App (Lam x x) x)`, []int{1}},
		{"the x of a Lam ahead", `(Add x (App (Lam x x) 1))`, []int{0}},
		{"the x of a Let in its a", `(Let x x 1)`, []int{1}},
		{"the x of a Let in its a, in a Lam", `(Let x (Lam y (App x y)) 1)`, []int{1, 1, 0}},
		{"the x of a Let behind it", `(Add (Let x 1 x) x)`, []int{1}},
		{"the x of a Lam in the a of a Let, in the b", `(Let f (Lam x x) x)`, []int{2}},
		{"the x of a Lam that is applied", `(App (Lam x 1) (Add x 1))`, []int{1, 0}},
		{"the first of two", `(If p q r)`, []int{0}},
		{"the first of two, deep within", `(If (Eq 1 (Add 1 p)) q r)`, []int{0, 1, 1}},
		{"deep within", `(Lam x (Let y 1 (If (Eq x y) (Lam z (Add x w)) (Lam z z))))`, []int{1, 2, 1, 1, 1}},
		// Beside nodes at which types can't be together.
		{"ahead of one", `(If q (Add Yes 1) 2)`, []int{0}},
		{"within one", `(Add Yes q)`, []int{1}},
		{"within one, that would part at the first Kid", `(If 1 q 2)`, []int{1}},
		{"applied to what it can't be", `(App 1 q)`, []int{1}},
		{"ahead of one in a Let", `(Let x q (App 1 2))`, []int{1}},
	} {
		noType(t, x.why, x.term, impl.ErrUndef, x.path...)
	}
	noType(t, "behind one", `(If Yes (Add Yes 1) q)`, impl.ErrType, 1)
	noType(t, "behind one in a Let", `(Let x (App 1 2) q)`, impl.ErrType, 1)
	noType(t, "behind one deep within", `(Add (Lam x (App x x)) q)`, impl.ErrType, 0, 1)
	// A large letter, and digits, make another name.
	for _, name := range []string{"X", "x1", "x_", "xx"} {
		if _, path, code := checkType(t, lam("x", id(name))); code != impl.ErrUndef || !slices.Equal(path, []int{1}) {
			t.Error(name, path, code)
		}
	}
}

// lams is a Lam for each of so many names around a term.
func lams(count int, within string) string {
	text := within
	for i := count; i >= 1; i-- {
		text = "(Lam p" + strconv.Itoa(i) + " " + text + ")"
	}
	return text
}

func TestNamesOfVariables(t *testing.T) {
	wantType(t, "in the order in which they stand", `(Lam x (Lam y (Lam f (App (App f y) x))))`, `(Fun a (Fun b (Fun (Fun b (Fun a c)) c)))`)
	wantType(t, "the order is that of the type, not of the term", `(Let k (Lam x (Lam y y)) (App k (Lam z z)))`, `(Fun a a)`)
	wantType(t, "what stands first in the type was made last", `(Lam f (Lam x (App (App f x) x)))`, `(Fun (Fun a (Fun a b)) (Fun a b))`)
	wantType(t, "z", lams(26, "1"), funs(0, 26, "Int"))
	wantType(t, "past z", lams(27, "1"), funs(0, 27, "Int"))
	wantType(t, "past z, and the last one again", lams(28, "p28"), funs(0, 28, "b1"))
	wantType(t, "past z1", lams(53, "p53"), funs(0, 53, "a2"))
	wantType(t, "as many Lams as there can be", lams(impl.MaxDepth-1, "p1"), funs(0, impl.MaxDepth-1, "a"))
	if text := funs(0, 53, "a2"); !strings.Contains(text, "(Fun y (Fun z (Fun a1 (Fun b1") || !strings.Contains(text, "(Fun z1 (Fun a2 a2)") {
		t.Error(text)
	}
	// Some hundreds: eight times fifty, each place with its own.
	d := "d"
	want := ""
	for count := 1; count <= 8; count *= 2 {
		want = funsOf(count)
		x := "(Let d " + lams(50, "1") + " " + d + ")"
		is, path, code := impl.TypeOf(term(x))
		if code != impl.OK || len(path) != 0 || !sameTree(is, kind(want)) {
			t.Errorf("%d: %.200s, %v, %d", count, written(is), path, code)
		}
		d = "(Lam x (Let y (If Yes x " + d + ") " + d + "))"
	}
	if !strings.Contains(want, "z14") || strings.Contains(want, "k15") || !strings.Contains(want, "j15") {
		t.Error(want)
	}
}

// funs is (Fun v (Fun v .. end)) with so many variables, from a number on.
func funs(from int, count int, end string) string {
	if count == 0 {
		return end
	}
	return "(Fun " + calledBy(from) + " " + funs(from+1, count-1, end) + ")"
}

// funsOf is count types of fifty variables each, two and two in a Fun.
func funsOf(count int) string {
	var list []string
	for i := range count {
		list = append(list, funs(50*i, 50, "Int"))
	}
	for len(list) > 1 {
		var next []string
		for i := 0; i < len(list); i += 2 {
			next = append(next, "(Fun "+list[i]+" "+list[i+1]+")")
		}
		list = next
	}
	return list[0]
}

// typeSized is a term of which the type has so many trees (an odd number), and is not deep. Names t1, t3 .. are Lets of types with so many.
func typeSized(size int) string {
	text, known := "t"+strconv.Itoa(size), []int{}
	var need func(size int)
	need = func(size int) {
		if slices.Contains(known, size) {
			return
		}
		if size > 1 {
			one, other := halves(size)
			need(one)
			need(other)
		}
		known = append(known, size)
	}
	need(size)
	for _, size := range slices.Backward(known) {
		own := "1"
		if size > 1 {
			one, other := halves(size)
			own = "(Lam x (Let y (If Yes x t" + strconv.Itoa(one) + ") t" + strconv.Itoa(other) + "))"
		}
		text = "(Let t" + strconv.Itoa(size) + " " + own + " " + text + ")"
	}
	return text
}

// halves are two odd numbers that are, with 1, an odd number.
func halves(size int) (int, int) {
	one := (size - 1) / 2
	if one%2 == 0 {
		return one - 1, one + 1
	}
	return one, one
}

// wantFullType asks for ErrFull and no path, with what may stand behind it.
func wantFullType(t *testing.T, why string, x string) {
	t.Helper()
	if !impl.TermOK(term(x)) {
		t.Fatal(why, "no term")
	}
	if is, path, code := impl.TypeOf(term(x)); code != impl.ErrFull || len(path) != 0 || !sameTree(is, impl.Tree{}) {
		t.Errorf("%s: %.200s, %v, %d", why, written(is), path, code)
	}
}

// A type's limits, met exactly (as near as a type comes) and passed by one.
func TestTypesAsLargeAsTheyMayBe(t *testing.T) {
	for _, size := range []int{1, 3, 5, 7, 9, 99, 501, 997, 999} {
		is, path, code := impl.TypeOf(term(typeSized(size)))
		if nodes, _, _ := impl.TreeSize(is); code != impl.OK || len(path) != 0 || nodes != size {
			t.Fatal(size, nodes, path, code)
		}
	}
	for _, size := range []int{1001, 1003, 1999} {
		wantFullType(t, strconv.Itoa(size), typeSized(size))
	}
	// Each node is looked at where it is gone through.
	large := typeSized(999)
	wantFullType(t, "a Lam of it", "(Lam p "+large+")")
	wantFullType(t, "a Lam of it that is applied", "(App (Lam p "+large+") 1)")
	wantFullType(t, "a Lam of it, in a Let whose x is not referred to", "(Let u (Lam p "+large+") 1)")
	wantGoodType(t, "it is not referred to", "(Let u "+large+" 1)", "Int")
	wantGoodType(t, "what takes it is larger yet, behind where it was gone through", "(Let u "+large+" (App (App (Lam x (Lam y y)) u) Yes))", "Bool")
	wantGoodType(t, "a choice of it is no larger", "(Let u "+large+" (Let v (If Yes u u) 1))", "Int")
}

// wantGoodType is for types that the model takes too long for.
func wantGoodType(t *testing.T, why string, x string, want string) {
	t.Helper()
	if is, path, code := impl.TypeOf(term(x)); code != impl.OK || len(path) != 0 || !sameTree(is, kind(want)) {
		t.Errorf("%s: %.200s, %v, %d and should be %s", why, written(is), path, code, want)
	}
}

// wantFaultAt is for terms in which some types are so large.
func wantFaultAt(t *testing.T, why string, x string, wantCode int, wantPath ...int) {
	t.Helper()
	if is, path, code := impl.TypeOf(term(x)); code != wantCode || !slices.Equal(path, wantPath) || !sameTree(is, impl.Tree{}) {
		t.Errorf("%s: %.200s, %v, %d and should be %d, %v", why, written(is), path, code, wantCode, wantPath)
	}
}

// The first node counts at which something holds, whatever holds at others: ErrFull is told at the node at which the type first is not right.
func TestTypesThatAreTooLargeAndOtherFaults(t *testing.T) {
	large, full := typeSized(999), typeSized(1001)
	wantFullType(t, "ahead of an Id that is declared nowhere", "(Add "+full+" q)")
	wantFullType(t, "ahead of a node at which types can't be together", "(If Yes "+full+" (App 1 2))")
	wantFullType(t, "within such a node", "(Add Yes "+full+")")
	wantFullType(t, "in the a of a Let, ahead of its b", "(Let u "+full+" (App 1 2))")
	wantFaultAt(t, "behind an Id that is declared nowhere", "(Add q "+full+")", impl.ErrUndef, 0)
	wantFaultAt(t, "behind a node at which types can't be together", "(If (App 1 2) "+full+" 3)", impl.ErrType, 0)
	wantFaultAt(t, "just not too large, and then another fault", "(App "+large+" q)", impl.ErrUndef, 1)
	wantFaultAt(t, "just not too large, and can't be together", "(Add "+large+" 1)", impl.ErrType)
	// What a name is becomes too large at an App whose own type is small: that is told where the name is referred to, or at its Lam.
	within := func(text string) string { return "(Let u " + large + " " + text + ")" }
	wantFullType(t, "at the Lam", within("(Lam p (Let v (App p u) 1))"))
	wantFaultAt(t, "ahead of the Lam there is an Id that is declared nowhere", within("(Lam p (Let v (App p u) q))"), impl.ErrUndef, 2, 1, 2)
	wantFaultAt(t, "ahead of the Lam types can't be together", within("(Lam p (Let v (App p u) (App 1 2)))"), impl.ErrType, 2, 1, 2)
	wantFullType(t, "where the name is referred to again, ahead of an Id that is declared nowhere", within("(Lam p (Let v (App p u) (Add p q)))"))
	wantFullType(t, "where the name is referred to again, in a node at which types can't be together", within("(Lam p (Let v (App p u) (Add 1 p)))"))
	wantFaultAt(t, "where another name is referred to", within("(Lam p (Lam r (Let v (App p u) (Add r q))))"), impl.ErrUndef, 2, 1, 1, 2, 1)
	// The same through the name of a Let, whose type has that of p in it.
	wantFullType(t, "through a Let's name", within("(Lam p (Let w (Lam z p) (Let v (App p u) (Add w q))))"))
	wantFullType(t, "at the node that makes it, of its own type", within("(Lam p (Add (App p (Lam z u)) q))"))
	// It can't be together is told ahead of it is too large.
	wantFaultAt(t, "both at one node", within("(Lam p (If p (Lam z 1) (If Yes (Lam z z) 1)))"), impl.ErrType, 2, 1, 2)
}

func TestTypesAsDeepAsTheyMayBe(t *testing.T) {
	const some = 30
	around := func(count int, within string) string {
		return "(Let d " + lams(some, "1") + " " + lams(count, within) + ")"
	}
	for count := range impl.MaxDepth - some {
		is, path, code := impl.TypeOf(term(around(count, "d")))
		if _, depth, _ := impl.TreeSize(is); code != impl.OK || len(path) != 0 || depth != count+some+1 {
			t.Fatal(count, depth, path, code)
		}
	}
	wantGoodType(t, "as deep as it may be", around(impl.MaxDepth-some-1, "d"), funs(0, impl.MaxDepth-1, "Int"))
	wantFullType(t, "one too deep", around(impl.MaxDepth-some, "d"))
	wantFullType(t, "one too deep, ahead of an Id that is declared nowhere", "(Add "+around(impl.MaxDepth-some, "d")+" q)")
	wantFullType(t, "one too deep, on the other side", "(Let d "+lams(some, "1")+" (Let e "+lams(some-1, "d")+" (Lam x (Let y (If Yes x e) 1))))")
	wantGoodType(t, "as deep as it may be, on the other side", "(Let d "+lams(some, "1")+" (Let e "+lams(some-2, "d")+" (Lam x (Let y (If Yes x e) 1))))", "(Fun "+funs(0, impl.MaxDepth-2, "Int")+" Int)")
	// One too deep, without ever being so where its node is gone through.
	taken := "(Let d " + lams(some, "1") + " (Let e " + lams(some-1, "d") + " (App (App (Lam x (Lam y y)) (Lam q (App (Lam x 1) e))) Yes)))"
	wantGoodType(t, "what takes it", taken, "Bool")
}
