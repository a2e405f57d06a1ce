package tests

import (
	"math/rand"
	"slices"
	"strings"
	"testing"

	"loop.example/g00037/impl"
)

func TestRename(t *testing.T) {
	wantRenamed(t, "alone", scopes(1, "0x", ""), 0, "y", "0y", "")
	wantRenamed(t, "with its refs", scopes(1, "0x 0z", "0x 0z 0x"), 0, "y", "0y 0z", "0y 0z 0y")
	wantRenamed(t, "to the same name", scopes(1, "0x 0z", "0x 0z 0x"), 0, "x", "0x 0z", "0x 0z 0x")
	wantRenamed(t, "no one has the name", scopes(2, "0x 1x", "0x 1x"), 1, "w", "0x 1w", "0x 1w")
	wantRenamed(t, "a name that nobody sees from there", scopes(2, "0x 1y", "0x 1y"), 0, "y", "0y 1y", "0y 1y")
	wantRenamed(t, "a ref from within", scopes(2, "1x", "0x", parent(0, 1)), 0, "y", "1y", "0y")
	wantRenamed(t, "a ref that imports it", scopes(2, "1x", "0x 0y", imports(0, 1)), 0, "z", "1z", "0z 0y")
	wantRenamed(t, "a ref that stays to nothing", scopes(2, "0x", "1x 1y"), 0, "y", "0y", "1x 1y")
	wantRenamed(t, "a ref that another one is nearer to", scopes(2, "1x 0x", "0x 1x", parent(0, 1)), 0, "y", "1y 0x", "0x 1y")
	wantRenamed(t, "what was hidden stays hidden", scopes(2, "1x 0y", "0y", parent(0, 1)), 0, "y", "1y 0y", "0y")
	wantRenamed(t, "one that no ref Resolves to, hidden as before", scopes(2, "1x 0x", "0x", parent(0, 1)), 0, "z", "1z 0x", "0x")
	wantRenamed(t, "to the longest name", scopes(1, "0x", "0x"), 0, strings.Repeat("y", impl.MaxName), "0"+strings.Repeat("y", impl.MaxName), "0"+strings.Repeat("y", impl.MaxName))
	wantRenamed(t, "two that no ref is to", scopes(1, "0x 0x", "0y"), 1, "w", "0x 0w", "0y")
	wantRenamed(t, "to a name that is there, but no ref", scopes(1, "0x 0y", ""), 1, "x", "0x 0x", "")
}

func TestRenameThatCatches(t *testing.T) {
	for _, x := range []struct {
		why  string
		g    impl.Sg
		decl int
		name string
	}{
		{"a ref to nothing comes to Resolve to it", scopes(1, "0x", "0y"), 0, "y"},
		{"a ref to nothing, from within", scopes(2, "1x", "0y", parent(0, 1)), 0, "y"},
		{"a ref to another one in the same scope", scopes(1, "0x 0y", "0y"), 0, "y"},
		{"a ref to another one further out", scopes(2, "1y 0x", "0y", parent(0, 1)), 1, "y"},
		{"a ref to another one that is imported", scopes(2, "1y 0x", "0y", imports(0, 1)), 1, "y"},
		{"its own ref is caught by a nearer one", scopes(2, "1x 0y", "0x", parent(0, 1)), 0, "y"},
		{"its own ref is caught by a nearer import", scopes(3, "1x 2y", "0x", parent(0, 1), imports(0, 2)), 0, "y"},
		{"its own ref comes to Resolve to two", scopes(1, "0x 0y", "0x"), 0, "y"},
		{"its own ref comes to Resolve to two of two parents", scopes(3, "1x 2y", "0x", parent(0, 1), parent(0, 2)), 0, "y"},
		{"one of its refs is caught, the other is not", scopes(2, "1x 0y", "1x 0x", parent(0, 1)), 0, "y"},
		{"a ref that hid behind another name", scopes(2, "1y 0x", "1y 0y 0x", parent(0, 1)), 1, "y"},
	} {
		checkScopes(t, x.g)
		if changed, code := checkRename(t, x.g, x.decl, x.name); code != impl.ErrCatch {
			t.Errorf("%s: %v, %d", x.why, changed, code)
		}
	}
}

func TestRenameOfOneOfTwo(t *testing.T) {
	two := scopes(1, "0x 0x 0y", "0x 0y")
	noRename(t, "a ref to it and to another", two, 0, "z", impl.ErrTwice)
	noRename(t, "a ref to it and to another, the other one", two, 1, "z", impl.ErrTwice)
	noRename(t, "and to the same name", two, 0, "x", impl.ErrTwice)
	noRename(t, "ahead of a catch", two, 0, "y", impl.ErrTwice)
	wantRenamed(t, "the third is alone", two, 2, "z", "0x 0x 0z", "0x 0z")

	// The first ref is to it alone, the second to both.
	g := scopes(3, "0x 1x", "0x 2x 1x", parent(2, 0), parent(2, 1))
	noRename(t, "one ref is to both", g, 0, "z", impl.ErrTwice)
	noRename(t, "one ref is to both, the other one", g, 1, "z", impl.ErrTwice)
	// A ref to both, that a nearer one keeps from them.
	hidden := scopes(3, "0x 1x 2x", "0x 2x 1x", parent(2, 0), parent(2, 1))
	wantRenamed(t, "hidden", hidden, 0, "z", "0z 1x 2x", "0z 2x 1x")
}

func TestWhichFaultOfRenameIsFirst(t *testing.T) {
	g := scopes(2, "0x 0x 1y", "0x 1y 0z")
	wrong := copySg(g)
	wrong.Edges = []impl.SEdge{{From: 0, To: 2, Kind: 1}}
	for _, decl := range []int{-1, 3, 0} {
		noRename(t, "not right", wrong, decl, "z", impl.ErrBad)
		for _, name := range noNames {
			noRename(t, "no name", g, decl, name, impl.ErrBad)
		}
	}
	for _, decl := range []int{-1, 3, 4, impl.MaxNames, 1 << 62, -1 << 63} {
		noRename(t, "no place", g, decl, "z", impl.ErrPlace)
		noRename(t, "no place, and no declaration at all", scopes(1, "", "0x"), decl, "x", impl.ErrPlace)
	}
	noRename(t, "no declaration", scopes(1, "", "0x"), 0, "x", impl.ErrPlace)
	noRename(t, "to two, and a catch", g, 0, "z", impl.ErrTwice)
	noRename(t, "a catch", scopes(2, "0x 1y", "0x 1y 0z"), 0, "z", impl.ErrCatch)
}

func TestManyNamesThatAreChanged(t *testing.T) {
	r := rand.New(rand.NewSource(18))
	met := map[int]int{}
	for range 20000 {
		g := someSg(r)
		for decl := range g.Decls {
			for _, name := range []string{"x", "y", "fresh"} {
				_, code := checkRename(t, g, decl, name)
				met[code]++
				if name == "fresh" && code == impl.ErrCatch {
					t.Fatalf("a name that no one has catches: %v, %d", g, decl)
				}
			}
		}
	}
	if met[impl.OK] < 10000 || met[impl.ErrTwice] < 5000 || met[impl.ErrCatch] < 5000 {
		t.Error(met)
	}
}

// A term's names are changed as those of its scopes are: what each Id means stays.
func TestNamesOfTermsThatAreChanged(t *testing.T) {
	r := rand.New(rand.NewSource(181))
	done, caught := 0, 0
	for range 3000 {
		x := someTerm(r, 2+r.Intn(5))
		g, decls, refs, code := impl.ScopesOf(x)
		if code != impl.OK {
			continue
		}
		for decl := range g.Decls {
			changed, code := checkRename(t, g, decl, oneOf(r, termNames...))
			if code != impl.OK {
				caught++
				continue
			}
			put := x
			for i, path := range decls {
				put = putBy(put, path, id(changed.Decls[i].Name))
			}
			for i, path := range refs {
				put = putBy(put, path, id(changed.Refs[i].Name))
			}
			// What stands free keeps its name, too.
			if !slices.Equal(meanings(put), meanings(x)) {
				t.Fatalf("%s became %s", written(x), written(put))
			}
			done++
		}
	}
	if done < 1000 || caught < 500 {
		t.Errorf("only %d were changed, %d caught", done, caught)
	}
}

// Nothing is written into scopes that are asked about, nor behind their lists, and nothing of them is in an answer.
func TestScopesKeepAndShareNothing(t *testing.T) {
	given := scopes(3, "0x 1y 2x 0x", "0y 1y 2x 0x 2z", parent(0, 1), imports(1, 2), parent(2, 0))
	// Each list has spare room behind it, filled.
	g := copySg(given)
	g.Edges = append(g.Edges, parent(7, 7))[:len(given.Edges)]
	g.Decls = append(g.Decls, impl.Spot{Scope: 7, Name: "spare"})[:len(given.Decls)]
	g.Refs = append(g.Refs, impl.Spot{Scope: 7, Name: "spare"})[:len(given.Refs)]
	unchanged := func(why string) {
		t.Helper()
		spare := impl.Spot{Scope: 7, Name: "spare"}
		if !sameSg(g, given) || g.Edges[:len(g.Edges)+1][len(g.Edges)] != parent(7, 7) || g.Decls[:len(g.Decls)+1][len(g.Decls)] != spare || g.Refs[:len(g.Refs)+1][len(g.Refs)] != spare {
			t.Fatal(why, "changed what it was given")
		}
	}
	spoilSg := func(g impl.Sg) {
		for i := range g.Edges[:cap(g.Edges)] {
			g.Edges[:cap(g.Edges)][i] = parent(-5, -5)
		}
		for _, list := range [][]impl.Spot{g.Decls, g.Refs} {
			for i := range list[:cap(list)] {
				list[:cap(list)][i] = impl.Spot{Scope: -5, Name: "spoilt"}
			}
		}
	}
	checkScopes(t, g)
	unchanged("Resolve")
	for decl := range g.Decls {
		for _, name := range []string{"w", "y", "x", ""} {
			changed, _ := impl.Rename(g, decl, name)
			unchanged("Rename")
			if len(changed.Refs) > 0 {
				// Refs spoilt leave the declarations.
				decls := slices.Clone(changed.Decls)
				list := changed.Refs
				for i := range list[:cap(list)] {
					list[:cap(list)][i] = impl.Spot{Scope: -6, Name: "spoilt"}
				}
				if !slices.Equal(changed.Decls, decls) {
					t.Error("two lists of an answer share memory")
				}
			}
			spoilSg(changed)
			unchanged("spoiling what Rename gave")
		}
	}
	one, _ := impl.Resolve(g, 3)
	for i := range one[:cap(one)] {
		one[:cap(one)][i] = -9
	}
	unchanged("spoiling what Resolve gave")
	if again, code := impl.Resolve(g, 3); !slices.Equal(again, []int{0, 3}) || code != impl.OK {
		t.Error(again, code)
	}
}
