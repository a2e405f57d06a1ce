package tests

import (
	"math/rand"
	"slices"
	"strconv"
	"strings"
	"testing"

	"loop.example/g00037/impl"
)

func TestResolve(t *testing.T) {
	none := []int(nil)
	wantResolved(t, "nothing at all", scopes(1, "", ""))
	wantResolved(t, "no declaration", scopes(1, "", "0x"), none)
	wantResolved(t, "no ref", scopes(1, "0x", ""))
	wantResolved(t, "its own scope", scopes(1, "0x", "0x"), []int{0})
	wantResolved(t, "another name", scopes(1, "0y 0X 0xx", "0x"), none)
	wantResolved(t, "several of its own", scopes(1, "0x 0y 0x 0x", "0x 0y"), []int{0, 2, 3}, []int{1})
	wantResolved(t, "no edge", scopes(2, "1x", "0x 1x"), none, []int{0})
	wantResolved(t, "a parent", scopes(2, "1x", "0x"+" 1x", parent(0, 1)), []int{0}, []int{0})
	wantResolved(t, "no way back from a parent", scopes(2, "0x", "1x", parent(0, 1)), none)
	wantResolved(t, "an import", scopes(2, "1x", "0x", imports(0, 1)), []int{0})
	wantResolved(t, "no way back from an import", scopes(2, "0x", "1x", imports(0, 1)), none)
	wantResolved(t, "a parent of a parent", scopes(3, "2x", "0x", parent(0, 1), parent(1, 2)), []int{0})
	wantResolved(t, "an import of a parent", scopes(3, "2x", "0x", parent(0, 1), imports(1, 2)), []int{0})
	wantResolved(t, "an import of an import is not seen", scopes(3, "2x", "0x 1x", imports(0, 1), imports(1, 2)), none, []int{0})
	wantResolved(t, "a parent of an import is not seen", scopes(3, "2x", "0x 1x", imports(0, 1), parent(1, 2)), none, []int{0})
	wantResolved(t, "an import of an import of a parent is not seen", scopes(4, "3x", "0x", parent(0, 1), imports(1, 2), imports(2, 3)), none)
}

func TestTheFewestStepsCount(t *testing.T) {
	// From 0: its own in 0, an import in 1, a parent's own in 2, an import of a parent in 3, a parent of a parent in 4, its import in 5.
	edges := []impl.SEdge{parent(2, 4), imports(4, 5), imports(2, 3), parent(0, 2), imports(0, 1)}
	for least := range 6 {
		var decls []string
		for scope := 5; scope >= least; scope-- {
			decls = append(decls, strconv.Itoa(scope)+"x")
		}
		g := scopes(6, strings.Join(decls, " "), "0x", edges...)
		wantResolved(t, "the nearest of many", g, []int{5 - least})
		slices.Reverse(g.Decls)
		wantResolved(t, "the nearest of many, told first", g, []int{0})
		g.Decls = g.Decls[:1]
		wantResolved(t, "the only one", g, []int{0})
		g.Decls = append(g.Decls, impl.Spot{Scope: least, Name: "y"}, impl.Spot{Scope: least, Name: "x"})
		wantResolved(t, "two in the nearest", g, []int{0, 2})
	}
	wantResolved(t, "an import in 1 step beside a parent's own in 2", scopes(3, "2x 1x", "0x", parent(0, 2), imports(0, 1)), []int{1})
	wantResolved(t, "a parent's own in 2 beside its import in 3", scopes(3, "2x 1x", "0x", parent(0, 1), imports(1, 2)), []int{1})
	wantResolved(t, "an import of a parent in 3 beside that one's parent in 4", scopes(4, "3x 2x", "0x", parent(0, 1), parent(1, 3), imports(1, 2)), []int{1})
	wantResolved(t, "one scope as an import and as a parent", scopes(3, "1x 2x", "0x", parent(0, 1), parent(0, 2), imports(0, 2)), []int{1})
	wantResolved(t, "its parents are looked at as those of a parent", scopes(3, "2x", "0x", imports(0, 1), parent(0, 1), parent(1, 2)), []int{0})
	wantResolved(t, "itself as an import", scopes(2, "0x 1x", "0x", imports(0, 0), imports(0, 1)), []int{0})
	wantResolved(t, "a short way and a long one", scopes(5, "4x 3x", "0x", parent(0, 1), parent(1, 2), parent(2, 4), parent(0, 4), parent(1, 3)), []int{0})
}

func TestAsFewStepsAsOneAnother(t *testing.T) {
	wantResolved(t, "two parents", scopes(3, "2x 0y 1x", "0x", parent(0, 1), parent(0, 2)), []int{0, 2})
	wantResolved(t, "two parents, the edges the other way round", scopes(3, "2x 0y 1x", "0x", parent(0, 2), parent(0, 1)), []int{0, 2})
	wantResolved(t, "two imports", scopes(3, "2x 1x", "0x", imports(0, 1), imports(0, 2)), []int{0, 1})
	wantResolved(t, "imports of two parents", scopes(5, "4x 3x 4x", "0x", parent(0, 1), parent(0, 2), imports(1, 4), imports(2, 3)), []int{0, 1, 2})
	wantResolved(t, "one of two parents has it", scopes(4, "3x 1x", "0x", parent(0, 1), parent(0, 2), parent(2, 3)), []int{1})
	wantResolved(t, "two ways to one parent of parents", scopes(4, "3x", "0x", parent(0, 1), parent(0, 2), parent(1, 3), parent(2, 3)), []int{0})
	wantResolved(t, "an edge twice", scopes(2, "1x 1x", "0x", parent(0, 1), parent(0, 1)), []int{0, 1})
	wantResolved(t, "an import twice", scopes(2, "1x 1x", "0x", imports(0, 1), imports(0, 1)), []int{0, 1})
	wantResolved(t, "five imports of one scope, three with the name", scopes(6, "5x 4y 3x 2y 1x", "0x 0y", imports(0, 5), imports(0, 4), imports(0, 3), imports(0, 2), imports(0, 1)), []int{0, 2, 4}, []int{1, 3})
}

func TestRingsOfScopes(t *testing.T) {
	none := []int(nil)
	wantResolved(t, "its own parent", scopes(1, "0x", "0x 0y", parent(0, 0)), []int{0}, none)
	wantResolved(t, "its own import", scopes(1, "0x", "0x 0y", imports(0, 0)), []int{0}, none)
	wantResolved(t, "two in a ring", scopes(2, "0x 1y", "0x 0y 1x 1y 0z", parent(0, 1), parent(1, 0)), []int{0}, []int{1}, []int{0}, []int{1}, none)
	wantResolved(t, "two that import each other", scopes(2, "0x 1x", "0x 1x 0y", imports(0, 1), imports(1, 0)), []int{0}, []int{1}, none)
	wantResolved(t, "a ring on the way", scopes(4, "3x", "0x", parent(0, 1), parent(1, 2), parent(2, 1), parent(2, 3)), []int{0})
	wantResolved(t, "round to itself, by an import", scopes(3, "0x", "1x 2x", parent(0, 1), parent(1, 2), imports(2, 0)), []int{0}, []int{0})
	g := impl.Sg{Scopes: impl.MaxScopes, Decls: spots("59x 0y 30y"), Refs: spots("0x 0y 1y 31y 59x 58x 0z")}
	for scope := range impl.MaxScopes {
		g.Edges = append(g.Edges, parent(scope, (scope+1)%impl.MaxScopes), imports(scope, scope))
	}
	wantResolved(t, "a ring of all", g, []int{0}, []int{1}, []int{2}, []int{1}, []int{0}, []int{0}, none)
}

func TestUnused(t *testing.T) {
	for _, x := range []struct {
		why  string
		g    impl.Sg
		want []int
	}{
		{"nothing", scopes(1, "", ""), nil},
		{"no ref", scopes(1, "0x 0x 0y", ""), []int{0, 1, 2}},
		{"a ref to nothing", scopes(2, "1x", "0x"), []int{0}},
		{"all", scopes(1, "0x 0y 0x", "0x 0y"), nil},
		{"one that is hidden", scopes(2, "1x 0x", "0x", parent(0, 1)), []int{0}},
		{"one that is hidden from one alone", scopes(3, "1x 0x", "0x 2x", parent(0, 1), parent(2, 1)), nil},
		{"those of another name", scopes(1, "0a 0b 0c 0b 0d", "0b"), []int{0, 2, 4}},
		{"one of another scope", scopes(2, "0x 1x 0x", "0x 0x"), []int{1}},
	} {
		checkScopes(t, x.g)
		if list, code := impl.Unused(x.g); !slices.Equal(list, x.want) || code != impl.OK {
			t.Errorf("%s: %v, %d", x.why, list, code)
		}
	}
}

// From one question to the next nothing is left.
func TestQuestionsAreApart(t *testing.T) {
	g := scopes(4, "3x 2y 1y", "0x 1x 2x 0y 1y 2y 3y 0x", parent(0, 1), parent(1, 2), parent(2, 3))
	wantResolved(t, "a row", g, []int{0}, []int{0}, []int{0}, []int{2}, []int{2}, []int{1}, nil, []int{0})
	for range 3 {
		for i := len(g.Refs) - 1; i >= 0; i-- {
			list, _ := impl.Resolve(g, i)
			if !slices.Equal(list, resolveBy(g)[i]) {
				t.Error(i, list)
			}
		}
	}
}

func TestManyScopes(t *testing.T) {
	r := rand.New(rand.NewSource(12))
	several, none, some := 0, 0, 0
	for range 20000 {
		for _, list := range checkScopes(t, someSg(r)) {
			several += oneFor(len(list) > 1)
			some += oneFor(len(list) == 1)
			none += oneFor(len(list) == 0)
		}
	}
	if several < 3000 || none < 3000 || some < 3000 {
		t.Errorf("only %d refs with several, %d with one, %d with none", several, some, none)
	}
}

// Two scopes, one of each kind of edge between any two or none, and a name that is declared in either.
func TestAllSmallScopes(t *testing.T) {
	var edges []impl.SEdge
	for from := range 2 {
		for to := range 2 {
			edges = append(edges, parent(from, to), imports(from, to))
		}
	}
	for set := range 1 << len(edges) {
		var some []impl.SEdge
		for i, e := range edges {
			if set>>i&1 == 1 {
				some = append(some, e)
			}
		}
		for _, decls := range []string{"", "0x", "1x", "0x 1x", "1x 0x", "0x 1y 0x"} {
			checkScopes(t, scopes(2, decls, "0x 1x 0y", some...))
		}
	}
}

// wrongScopes are g with one thing changed, each for one reason not right.
func wrongScopes(g impl.Sg) map[string]impl.Sg {
	wrong := map[string]impl.Sg{}
	change := func(why string, do func(g *impl.Sg)) {
		other := copySg(g)
		do(&other)
		wrong[why] = other
	}
	for _, count := range []int{0, -1, impl.MaxScopes + 1, 1 << 62, -1 << 63} {
		change("Scopes is "+strconv.Itoa(count), func(g *impl.Sg) { g.Scopes = count })
	}
	for _, scope := range []int{-1, g.Scopes, impl.MaxScopes, 1 << 62, -1 << 63} {
		for i := range g.Edges {
			change("an edge from "+strconv.Itoa(scope)+" at "+strconv.Itoa(i), func(g *impl.Sg) { g.Edges[i].From = scope })
			change("an edge to "+strconv.Itoa(scope)+" at "+strconv.Itoa(i), func(g *impl.Sg) { g.Edges[i].To = scope })
		}
		for i := range g.Decls {
			change("a declaration in "+strconv.Itoa(scope)+" at "+strconv.Itoa(i), func(g *impl.Sg) { g.Decls[i].Scope = scope })
		}
		for i := range g.Refs {
			change("a ref in "+strconv.Itoa(scope)+" at "+strconv.Itoa(i), func(g *impl.Sg) { g.Refs[i].Scope = scope })
		}
	}
	for _, kind := range []int{0, 3, -1, 4, 1 << 62} {
		for i := range g.Edges {
			change("an edge of kind "+strconv.Itoa(kind)+" at "+strconv.Itoa(i), func(g *impl.Sg) { g.Edges[i].Kind = kind })
		}
	}
	for _, name := range noNames {
		short := strconv.Quote(name[:min(len(name), 30)])
		for i := range g.Decls {
			change("a declaration of "+short+" at "+strconv.Itoa(i), func(g *impl.Sg) { g.Decls[i].Name = name })
		}
		for i := range g.Refs {
			change("a ref to "+short+" at "+strconv.Itoa(i), func(g *impl.Sg) { g.Refs[i].Name = name })
		}
	}
	return wrong
}

func TestScopesThatAreWrong(t *testing.T) {
	noScopes(t, "nothing", impl.Sg{})
	g := scopes(3, "0x 2x 1y", "0x 1y 2z", parent(0, 1), imports(1, 2), parent(2, 2))
	checkScopes(t, g)
	for why, wrong := range wrongScopes(g) {
		noScopes(t, why, wrong)
	}
	alone := scopes(1, "0x", "0x", parent(0, 0))
	checkScopes(t, alone)
	for why, wrong := range wrongScopes(alone) {
		noScopes(t, why, wrong)
	}
}

func TestLimitsOfScopes(t *testing.T) {
	checkScopes(t, impl.Sg{Scopes: 1})
	checkScopes(t, impl.Sg{Scopes: impl.MaxScopes})
	noScopes(t, "one scope too many", impl.Sg{Scopes: impl.MaxScopes + 1})
	noScopes(t, "no scope", impl.Sg{Scopes: 0})

	g := impl.Sg{Scopes: impl.MaxScopes}
	for i := range impl.MaxLinks {
		g.Edges = append(g.Edges, impl.SEdge{From: i % impl.MaxScopes, To: (i + 1) % impl.MaxScopes, Kind: 1 + i%2})
	}
	for i := range impl.MaxNames {
		g.Decls = append(g.Decls, impl.Spot{Scope: i / 2, Name: oneOf(rand.New(rand.NewSource(int64(i))), "x", "y", "z", "w")})
		g.Refs = append(g.Refs, impl.Spot{Scope: (i * 7) % impl.MaxScopes, Name: oneOf(rand.New(rand.NewSource(int64(i))), "y", "x", "w", "z")})
	}
	checkScopes(t, g)
	for _, decl := range []int{0, 1, 60, impl.MaxNames - 1} {
		checkRename(t, g, decl, "fresh")
		checkRename(t, g, decl, "x")
	}
	more := func(why string, do func(g *impl.Sg)) {
		t.Helper()
		other := copySg(g)
		do(&other)
		noScopes(t, why, other)
	}
	more("one edge too many", func(g *impl.Sg) { g.Edges = append(g.Edges, parent(0, 0)) })
	more("one declaration too many", func(g *impl.Sg) { g.Decls = append(g.Decls, impl.Spot{Scope: 0, Name: "x"}) })
	more("one ref too many", func(g *impl.Sg) { g.Refs = append(g.Refs, impl.Spot{Scope: 0, Name: "x"}) })
	more("very many edges", func(g *impl.Sg) { g.Edges = slices.Repeat(g.Edges, 10000) })
	more("very many names", func(g *impl.Sg) { g.Decls, g.Refs = slices.Repeat(g.Decls, 10000), slices.Repeat(g.Refs, 10000) })

	// A row of parents as long as there can be one, with what is declared last.
	row := impl.Sg{Scopes: impl.MaxScopes}
	for scope := range impl.MaxScopes - 1 {
		row.Edges = append(row.Edges, parent(scope, scope+1))
	}
	for i := range impl.MaxNames {
		row.Decls = append(row.Decls, impl.Spot{Scope: impl.MaxScopes - 1, Name: "x" + strconv.Itoa(i/2)})
		row.Refs = append(row.Refs, impl.Spot{Scope: i % impl.MaxScopes, Name: "x" + strconv.Itoa(i/2)})
	}
	for i, list := range checkScopes(t, row) {
		if !slices.Equal(list, []int{i / 2 * 2, i/2*2 + 1}) {
			t.Error(i, list)
		}
	}

	long := strings.Repeat("x", impl.MaxName)
	wantResolved(t, "a name as long as one may be", scopes(1, "0"+long, "0"+long), []int{0})
}
