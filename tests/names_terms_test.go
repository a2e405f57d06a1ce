package tests

import (
	"math/rand"
	"slices"
	"strconv"
	"strings"
	"testing"

	"loop.example/g00037/impl"
)

func TestTerms(t *testing.T) {
	long := strings.Repeat("x", impl.MaxName)
	for _, text := range []string{
		`Id"x"`, `Id"Lam"`, `Id"Id"`, `Id"x_1"`, `Id"Z9"`, `Id"` + long + `"`,
		`Num"0"`, `Num"7"`, `Num"10"`, `Num"100"`, `Num"999999999"`, `Num"123456789"`, `Num"100000000"`,
		`Yes""`, `No""`,
		`(Lam Id"x" Id"x")`, `(Lam Id"x" Num"0")`, `(Lam Id"Lam" (Lam Id"Lam" Id"Let"))`,
		`(App Id"x" Id"y")`, `(App Num"1" Yes"")`,
		`(Let Id"x" Num"1" Id"x")`, `(Let Id"x" Id"x" Id"x")`,
		`(If Id"a" Id"b" Id"c")`, `(If Num"1" No"" (Lam Id"x" Id"x"))`,
		`(Add Num"1" Num"2")`, `(Add Yes"" (Lam Id"x" Id"x"))`, `(Eq Id"x" Id"x")`,
		`(Let Id"f" (Lam Id"x" (If (Eq Id"x" Num"0") Yes"" (App Id"f" (Add Id"x" Num"1")))) (App Id"f" Num"10"))`,
	} {
		wantTerm(t, tree(text), true)
		// Within each form, at each place.
		for _, around := range []string{`(Lam Id"y" HERE)`, `(App HERE Yes"")`, `(App Yes"" HERE)`, `(Let Id"y" HERE No"")`, `(Let Id"y" No"" HERE)`, `(If HERE Id"a" Id"b")`, `(If Id"a" HERE Id"b")`, `(If Id"a" Id"b" HERE)`, `(Add HERE HERE)`, `(Eq HERE (Eq HERE HERE))`} {
			wantTerm(t, tree(strings.ReplaceAll(around, "HERE", text)), true)
		}
	}
}

func TestTreesThatAreJustNoTerms(t *testing.T) {
	for _, text := range []string{
		`Num""`, `Num"00"`, `Num"01"`, `Num"007"`, `Num"1234567890"`, `Num"0000000000"`, `Num"-1"`, `Num"+1"`, `Num"1 "`, `Num" 1"`, `Num"1a"`, `Num"x"`, `Num"1_0"`, `Num"0x1"`, `Num"1\010"`, `Num"\194\178"`,
		`Yes"y"`, `Yes" "`, `Yes"Yes"`, `No"0"`, `No"\000"`,
		`Id""`, `Id"1"`, `Id"1x"`, `Id"_x"`, `Id"x-y"`, `Id"x y"`, `Id" x"`, `Id"x\010"`, `Id"` + strings.Repeat("x", impl.MaxName+1) + `"`, `Id"\195\169"`,
		`id"x"`, `ID"x"`, `Var"x"`, `Idx"x"`, `num"1"`, `Int"1"`, `Nums"1"`, `yes""`, `Ye""`, `Noo""`,
		// A node's Name at a leaf, and the other way round.
		`Lam""`, `App""`, `Let""`, `If""`, `Add""`, `Eq""`, `Lam"x"`,
		`(Id)`, `(Num)`, `(Yes)`, `(No)`, `(Id Id"x")`, `(Num Num"1")`, `(Yes Yes"")`,
		// No form.
		`(Mul Num"1" Num"2")`, `(lam Id"x" Id"x")`, `(Lams Id"x" Id"x")`, `(Fun Id"x" Id"x")`, `(A)`,
		// A Kid too few or too many.
		`(Lam)`, `(Lam Id"x")`, `(Lam Id"x" Id"x" Id"x")`, `(App)`, `(App Id"x")`, `(App Id"x" Id"y" Id"z")`, `(Let)`, `(Let Id"x")`, `(Let Id"x" Num"1")`, `(Let Id"x" Num"1" Num"2" Num"3")`,
		`(If)`, `(If Yes"")`, `(If Yes"" Num"1")`, `(If Yes"" Num"1" Num"2" Num"3")`, `(Add)`, `(Add Num"1")`, `(Add Num"1" Num"2" Num"3")`, `(Eq)`, `(Eq Num"1")`, `(Eq Num"1" Num"2" Num"3")`,
		// An x that is no Id.
		`(Lam Num"1" Id"x")`, `(Lam Yes"" Id"x")`, `(Lam (Lam Id"x" Id"x") Id"x")`, `(Lam Id"1" Id"x")`, `(Lam Id"" Id"x")`, `(Lam Var"x" Id"x")`, `(Lam (Id) Id"x")`, `(Lam (App Id"x" Id"y") Id"x")`,
		`(Let Num"1" Num"1" Id"x")`, `(Let No"" Num"1" Id"x")`, `(Let (Add Id"x" Id"x") Num"1" Id"x")`, `(Let Id"x y" Num"1" Id"x")`,
	} {
		wrong := tree(text)
		wantTerm(t, wrong, false)
		// Also where all around it is right.
		for _, x := range []impl.Tree{lam("y", wrong), app(wrong, id("x")), app(id("x"), wrong), let("y", wrong, id("y")), let("y", id("y"), wrong), node("If", id("a"), id("b"), wrong), node("Add", wrong, wrong), node("Eq", id("x"), lam("x", lam("x", wrong)))} {
			wantTerm(t, x, false)
		}
	}
	for why, wrong := range wrongTrees() {
		noTerm(t, why, wrong)
		noTerm(t, why+", within a term", app(id("x"), wrong))
	}
	// All that is a term but for its size or its depth.
	list := slices.Repeat([]impl.Tree{id("x")}, impl.MaxNodes/2)
	wantTerm(t, apps(list), true)
	noTerm(t, "too many", apps(append(list, id("x"))))
	low := id("x")
	for range impl.MaxDepth - 1 {
		low = lam("y", low)
	}
	wantTerm(t, low, true)
	noTerm(t, "too deep", lam("y", low))
	noTerm(t, "an x above Kids", node("Lam", impl.Tree{Name: "Id", Text: "x", Leaf: true, Kids: []impl.Tree{id("x")}}, id("x")))
	noTerm(t, "a Lam with a text", impl.Tree{Name: "Lam", Text: "x", Kids: []impl.Tree{id("x"), id("x")}})
	noTerm(t, "a Lam that is a leaf", impl.Tree{Name: "Lam", Leaf: true, Kids: []impl.Tree{id("x"), id("x")}})
}

// All small trees of some Names: leaves, and nodes of at most four of these.
func TestAllSmallTerms(t *testing.T) {
	var kids []impl.Tree
	for _, name := range []string{"Id", "Num", "No", "Lam"} {
		for _, text := range []string{"", "x", "1"} {
			kids = append(kids, leaf(name, text))
		}
	}
	for _, x := range kids {
		wantTerm(t, x, isTermBy(x))
	}
	some := []impl.Tree{id("x"), leaf("Num", "1"), id("1"), lam("x", id("x")), node("Id")}
	count := 0
	for _, list := range lists(some, 4) {
		for _, name := range []string{"Lam", "App", "Let", "If", "Add", "Eq", "Id", "Num", "Yes", "No", "Sub"} {
			x := node(name, list...)
			wantTerm(t, x, isTermBy(x))
			count += oneFor(impl.TermOK(x))
		}
	}
	// Of three terms as Kids, of which an Id and two others: two Kids, 1 * 3 and 3 * 9, three Kids, 1 * 9 and 27.
	if count != 3+27+9+27 {
		t.Errorf("%d terms", count)
	}
}

func TestManyTermsAndSpoiltOnes(t *testing.T) {
	r := rand.New(rand.NewSource(120))
	right, wrong := 0, 0
	for range 3000 {
		x := someTerm(r, 1+r.Intn(6))
		wantTerm(t, x, true)
		paths := pathsOf(x)
		path := paths[r.Intn(len(paths))]
		at := copyTree(under(x, path))
		switch r.Intn(5) {
		case 0:
			at.Name = oneOf(r, "Id", "Num", "Yes", "No", "Lam", "App", "Let", "If", "Add", "Eq", "Sub")
		case 1:
			at.Text = oneOf(r, "", "x", "0", "1x")
		case 2:
			at.Leaf = !at.Leaf
		case 3:
			at.Kids = at.Kids[:max(0, len(at.Kids)-1)]
		case 4:
			at.Kids = append(at.Kids, id("x"))
		}
		spoilt := putBy(x, path, at)
		wantTerm(t, spoilt, isTermBy(spoilt))
		right += oneFor(impl.TermOK(spoilt))
		wrong += oneFor(!impl.TermOK(spoilt))
	}
	if right < 300 || wrong < 1000 {
		t.Errorf("only %d are terms, %d are none", right, wrong)
	}
}

func TestScopesOf(t *testing.T) {
	for _, x := range []struct {
		why, term         string
		count             int
		edges             []impl.SEdge
		decls, refs       string
		declPath, refPath [][]int
	}{
		{"an Id", `x`, 1, nil, "", "0x", nil, [][]int{{}}},
		{"a Num", `7`, 1, nil, "", "", nil, nil},
		{"Yes", `Yes`, 1, nil, "", "", nil, nil},
		{"no scope of its own", `(If (Eq x 1) (App f x) (Add y z))`, 1, nil, "", "0x 0f 0x 0y 0z", nil, [][]int{{0, 0}, {1, 0}, {1, 1}, {2, 0}, {2, 1}}},
		{"a Lam", `(Lam x x)`, 2, []impl.SEdge{parent(1, 0)}, "1x", "1x", [][]int{{0}}, [][]int{{1}}},
		{"a Lam that nothing refers to", `(Lam x y)`, 2, []impl.SEdge{parent(1, 0)}, "1x", "1y", [][]int{{0}}, [][]int{{1}}},
		{"a Lam within a Lam of the same name", `(Lam x (Lam x x))`, 3, []impl.SEdge{parent(1, 0), parent(2, 1)}, "1x 2x", "2x", [][]int{{0}, {1, 0}}, [][]int{{1, 1}}},
		{"a Lam beside a Lam", `(App (Lam x x) (Lam x y))`, 3, []impl.SEdge{parent(1, 0), parent(2, 0)}, "1x 2x", "1x 2y", [][]int{{0, 0}, {1, 0}}, [][]int{{0, 1}, {1, 1}}},
		{"a Let whose a stands outside", `(Let x x x)`, 2, []impl.SEdge{parent(1, 0)}, "1x", "0x 1x", [][]int{{0}}, [][]int{{1}, {2}}},
		{"a Lam in the a of a Let comes behind the Let", `(Let f (Lam x (Add x y)) (App f x))`, 3, []impl.SEdge{parent(1, 0), parent(2, 0)}, "1f 2x", "2x 2y 1f 1x", [][]int{{0}, {1, 0}}, [][]int{{1, 1, 0}, {1, 1, 1}, {2, 0}, {2, 1}}},
		{"a Let in each part of a Let", `(Let a (Let b b a) (Let c a c))`, 4, []impl.SEdge{parent(1, 0), parent(2, 0), parent(3, 1)}, "1a 2b 3c", "0b 2a 1a 3c", [][]int{{0}, {1, 0}, {2, 0}}, [][]int{{1, 1}, {1, 2}, {2, 1}, {2, 2}}},
		{"a Let within a Lam", `(Lam x (Let y x (Lam z (App (App x y) z))))`, 4, []impl.SEdge{parent(1, 0), parent(2, 1), parent(3, 2)}, "1x 2y 3z", "1x 3x 3y 3z", [][]int{{0}, {1, 0}, {1, 2, 0}}, [][]int{{1, 1}, {1, 2, 1, 0, 0}, {1, 2, 1, 0, 1}, {1, 2, 1, 1}}},
	} {
		checkScopesOf(t, term(x.term))
		g, decls, refs, code := impl.ScopesOf(term(x.term))
		want := impl.Sg{Scopes: x.count, Edges: x.edges, Decls: spots(x.decls), Refs: spots(x.refs)}
		if !sameSg(g, want) || !slices.EqualFunc(decls, x.declPath, slices.Equal[[]int]) || !slices.EqualFunc(refs, x.refPath, slices.Equal[[]int]) || code != impl.OK {
			t.Errorf("%s: %v, %v, %v, %d", x.why, g, decls, refs, code)
		}
	}
}

func TestScopesOfManyTerms(t *testing.T) {
	r := rand.New(rand.NewSource(121))
	for range 4000 {
		x := someTerm(r, 1+r.Intn(5))
		if want, _, _ := scopesBy(x); impl.SgOK(want) {
			g := checkScopesOf(t, x)
			checkScopes(t, g)
		} else if g, decls, refs, code := impl.ScopesOf(x); !sameSg(g, impl.Sg{}) || len(decls)+len(refs) != 0 || code != impl.ErrFull {
			t.Fatal(written(x), code)
		}
	}
}

func wantFullScopes(t *testing.T, why string, x impl.Tree) {
	t.Helper()
	if !impl.TermOK(x) {
		t.Fatalf("%s: no term", why)
	}
	if g, decls, refs, code := impl.ScopesOf(x); !sameSg(g, impl.Sg{}) || len(decls) != 0 || len(refs) != 0 || code != impl.ErrFull {
		t.Errorf("%s: %v, %v, %v, %d", why, g, decls, refs, code)
	}
}

// As many scopes and refs as there may be. (A declaration has a scope of its own, so there are never MaxNames of them.)
func TestLimitsOfScopesOf(t *testing.T) {
	num := leaf("Num", "1")
	lams := func(count int, a impl.Tree) []impl.Tree { return slices.Repeat([]impl.Tree{lam("x", a)}, count) }
	lets := func(count int, b impl.Tree) []impl.Tree {
		return slices.Repeat([]impl.Tree{let("x", num, b)}, count)
	}
	for _, make := range []func(count int, a impl.Tree) []impl.Tree{lams, lets} {
		g := checkScopesOf(t, apps(make(impl.MaxScopes-1, num)))
		if g.Scopes != impl.MaxScopes || len(g.Decls) != impl.MaxScopes-1 {
			t.Error(g.Scopes)
		}
		wantFullScopes(t, "one scope too many", apps(make(impl.MaxScopes, num)))
		wantFullScopes(t, "many scopes too many", apps(make(200, num)))
	}
	ids := slices.Repeat([]impl.Tree{id("x")}, impl.MaxNames)
	if g := checkScopesOf(t, apps(ids)); len(g.Refs) != impl.MaxNames {
		t.Error(len(g.Refs))
	}
	wantFullScopes(t, "one ref too many", apps(append(ids, id("x"))))
	wantFullScopes(t, "many refs too many", apps(slices.Repeat(ids, 4)))
	both := apps(lams(impl.MaxScopes-1, app(id("x"), id("y"))))
	checkScopesOf(t, app(both, app(id("x"), id("y"))))
	wantFullScopes(t, "both, and one ref too many", app(both, app(id("x"), app(id("y"), id("z")))))
	wantFullScopes(t, "both, and one scope too many", app(both, app(id("x"), lam("x", id("x")))))
	// One in the other, as deep as a term may be.
	low := id("x")
	for i := range impl.MaxDepth - 1 {
		low = lam("x"+strconv.Itoa(i), low)
	}
	if g := checkScopesOf(t, low); g.Scopes != impl.MaxScopes {
		t.Error(g.Scopes)
	}
	// Terms that are no longer right come first.
	noTerm(t, "too deep, and full", lam("x", low))
}

func TestScopesOfKeepsAndSharesNothing(t *testing.T) {
	x := roomy(term(`(Let f (Lam x (Add x (Let y x y))) (App f (Lam z z)))`))
	before := copyTree(x)
	checkScopesOf(t, x)
	if !sameTree(x, before) || !sparesKept(x) {
		t.Fatal("ScopesOf changed what it was given")
	}
	g, decls, refs, _ := impl.ScopesOf(x)
	want, wantDecls, wantRefs := scopesBy(x)
	both, wantBoth := append(slices.Clone(decls), refs...), append(slices.Clone(wantDecls), wantRefs...)
	for i, path := range both {
		for k := range path[:cap(path)] {
			path[:cap(path)][k] = -7
		}
		for k, other := range both[i+1:] {
			if !slices.Equal(other, wantBoth[i+1+k]) {
				t.Fatal("two paths share memory")
			}
		}
	}
	for i := range decls[:cap(decls)] {
		decls[:cap(decls)][i] = nil
	}
	for i := range refs {
		if len(refs[i]) != len(wantRefs[i]) {
			t.Fatal("two lists of paths share memory")
		}
	}
	for i := range g.Decls[:cap(g.Decls)] {
		g.Decls[:cap(g.Decls)][i] = impl.Spot{Scope: -5, Name: "spoilt"}
	}
	if !slices.Equal(g.Refs, want.Refs) || !slices.Equal(g.Edges, want.Edges) || !sameTree(x, before) || !sparesKept(x) {
		t.Error("lists of an answer share memory")
	}
	checkScopesOf(t, x)
}
