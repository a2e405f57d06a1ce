package tests

import (
	"cmp"
	"fmt"
	"math/rand"
	"slices"
	"strings"
	"testing"

	"loop.example/g00037/impl"
)

// treesOf reads several texts.
func treesOf(texts ...string) []impl.Tree {
	var trees []impl.Tree
	for _, text := range texts {
		trees = append(trees, tree(text))
	}
	return trees
}

func leafShape(name string) impl.Shape { return impl.Shape{Name: name, Leaf: true} }

func nodeShape(name string, kids int) impl.Shape { return impl.Shape{Name: name, Kids: kids} }

// counting is a language with numbers, questions and choices. Its Shapes are those of numbers: each of these goes on in one way up to a value.
func counting() impl.Sem {
	return impl.Sem{
		Rules: []impl.RwRule{
			rule("yes", `(If Yes"" Var"a" Var"b")`, `Var"a"`),
			rule("no", `(If No"" Var"a" Var"b")`, `Var"b"`),
			rule("least", `(Pred Zero"")`, `Zero""`),
			rule("less", `(Pred (Succ Val"n"))`, `Val"n"`),
			rule("nought", `(IsZero Zero"")`, `Yes""`),
			rule("more", `(IsZero (Succ Val"n"))`, `No""`),
		},
		Values:   treesOf(`Zero""`, `Yes""`, `No""`, `(Succ Val"n")`),
		Contexts: treesOf(`(If Hole"" Var"a" Var"b")`, `(Succ Hole"")`, `(Pred Hole"")`, `(IsZero Hole"")`),
		Shapes:   []impl.Shape{leafShape("Zero"), nodeShape("Succ", 1), nodeShape("Pred", 1)},
	}
}

func isSemVariable(p impl.Tree) bool { return p.Leaf && (p.Name == "Var" || p.Name == "Val") }

func isHole(p impl.Tree) bool { return p.Leaf && p.Name == "Hole" }

// The name of the variable that the model has for a Hole; no pattern of the tests has it.
const holeVariable = "TheHole"

// withVars is a pattern of chapter 11: each Val of p is a Var, and its Hole one that stands nowhere else.
func withVars(p impl.Tree) impl.Tree {
	if isSemVariable(p) {
		return variable(p.Text)
	}
	if isHole(p) {
		return variable(holeVariable)
	}
	kids := p.Kids
	p.Kids = nil
	for _, kid := range kids {
		p.Kids = append(p.Kids, withVars(kid))
	}
	return p
}

// fitsBy asks, of a tree that is the pattern with trees in it, whether those for a Val are values.
func fitsBy(s impl.Sem, p impl.Tree, x impl.Tree) ([]impl.Bind, bool) {
	binds, fits := matchBy(withVars(p), x)
	if !fits {
		return nil, false
	}
	for _, path := range pathsOf(p) {
		v := under(p, path)
		if !v.Leaf || v.Name != "Val" {
			continue
		}
		if bound, _ := boundTo(binds, v.Text); !valueBy(s, bound) {
			return nil, false
		}
	}
	return binds, true
}

func valueBy(s impl.Sem, x impl.Tree) bool {
	return slices.ContainsFunc(s.Values, func(p impl.Tree) bool {
		_, fits := fitsBy(s, p, x)
		return fits
	})
}

func sameRedex(a impl.Redex, b impl.Redex) bool {
	return a.Rule == b.Rule && slices.Equal(a.Path, b.Path)
}

func sameRedexes(a []impl.Redex, b []impl.Redex) bool { return slices.EqualFunc(a, b, sameRedex) }

func holeIn(context impl.Tree) []int {
	paths := pathsOf(context)
	return paths[slices.IndexFunc(paths, func(path []int) bool { return isHole(under(context, path)) })]
}

// redexesBy goes every way, and leaves out what was told.
func redexesBy(s impl.Sem, x impl.Tree) []impl.Redex {
	var list []impl.Redex
	tell := func(r impl.Redex) {
		if !slices.ContainsFunc(list, func(told impl.Redex) bool { return sameRedex(told, r) }) {
			list = append(list, r)
		}
	}
	for i, rule := range s.Rules {
		if _, fits := fitsBy(s, rule.Left, x); fits {
			tell(impl.Redex{Rule: i})
		}
	}
	for _, context := range s.Contexts {
		if _, fits := fitsBy(s, context, x); !fits {
			continue
		}
		hole := holeIn(context)
		for _, r := range redexesBy(s, under(x, hole)) {
			tell(impl.Redex{Path: slices.Concat(hole, r.Path), Rule: r.Rule})
		}
	}
	return list
}

func doBy(s impl.Sem, x impl.Tree) (impl.Tree, int) {
	list := redexesBy(s, x)
	if len(list) == 0 {
		return impl.Tree{}, impl.ErrNone
	}
	if len(list) > 1 {
		return impl.Tree{}, impl.ErrTwice
	}
	rule := s.Rules[list[0].Rule]
	binds, _ := fitsBy(s, rule.Left, under(x, list[0].Path))
	behind := putBy(x, list[0].Path, fillBy(withVars(rule.Right), binds))
	if !impl.TreeOK(behind) {
		return impl.Tree{}, impl.ErrFull
	}
	return behind, impl.OK
}

// runBy does what do does.
func runBy(s impl.Sem, x impl.Tree, fuel int, do func(s impl.Sem, x impl.Tree) (impl.Tree, int)) (impl.Tree, int, int) {
	for done := 0; ; done++ {
		behind, code := do(s, x)
		switch {
		case code == impl.ErrNone && valueBy(s, x):
			return x, done, impl.OK
		case code == impl.ErrNone:
			return x, done, impl.ErrStuck
		case done == fuel:
			return x, done, impl.ErrTired
		case code != impl.OK:
			return x, done, code
		}
		x = behind
	}
}

// badlyBy is 0 for a tree that is not told badly.
func badlyBy(s impl.Sem, x impl.Tree) int {
	switch n, value := len(redexesBy(s, x)), valueBy(s, x); {
	case n >= 2:
		return impl.WtTwice
	case n == 0 && !value:
		return impl.WtStuck
	case n == 1 && value:
		return impl.WtValue
	}
	return 0
}

// shaped is a tree, and which Shape each of its trees is of.
type shaped struct {
	tree  impl.Tree
	shape int
	kids  []shaped
}

// compareShaped is the order in which Witness goes.
func compareShaped(a shaped, b shaped) int {
	return cmp.Or(cmp.Compare(treeCount(a.tree), treeCount(b.tree)), cmp.Compare(a.shape, b.shape), slices.CompareFunc(a.kids, b.kids, compareShaped))
}

// shapedBy are all trees of Shapes of at most size trees: they are made in any order, and sorted.
func shapedBy(shapes []impl.Shape, size int) []shaped {
	bySize := make([][]shaped, size+1)
	for n := 1; n <= size; n++ {
		for i, shape := range shapes {
			for _, kids := range shapedLists(bySize, shape.Kids, n-1) {
				made := shaped{tree: impl.Tree{Name: shape.Name, Text: shape.Text, Leaf: shape.Leaf}, shape: i, kids: kids}
				for _, kid := range kids {
					made.tree.Kids = append(made.tree.Kids, kid.tree)
				}
				bySize[n] = append(bySize[n], made)
			}
		}
	}
	all := slices.Concat(bySize...)
	slices.SortFunc(all, compareShaped)
	return all
}

func shapedLists(bySize [][]shaped, count int, size int) [][]shaped {
	if count == 0 && size == 0 {
		return [][]shaped{nil}
	}
	if count == 0 {
		return nil
	}
	var lists [][]shaped
	for last := size; last >= 1; last-- {
		for _, ahead := range shapedLists(bySize, count-1, size-last) {
			for _, x := range bySize[last] {
				lists = append(lists, append(slices.Clone(ahead), x))
			}
		}
	}
	return lists
}

func witnessBy(s impl.Sem, size int) (impl.Badly, int) {
	all := shapedBy(s.Shapes, size)
	if len(all) > impl.MaxMade {
		return impl.Badly{}, impl.ErrFull
	}
	for _, made := range all {
		if kind := badlyBy(s, made.tree); kind != 0 {
			return impl.Badly{Kind: kind, Tree: made.tree}, impl.OK
		}
	}
	return impl.Badly{}, impl.OK
}

// lessBy tells all trees that it came through, too.
func lessBy(s impl.Sem, x impl.Tree) ([]impl.Tree, int) {
	kind := badlyBy(s, x)
	through := []impl.Tree{x}
again:
	for {
		for _, path := range pathsOf(x) {
			for _, kid := range under(x, path).Kids {
				if less := putBy(x, path, kid); badlyBy(s, less) == kind {
					x = less
					through = append(through, x)
					continue again
				}
			}
		}
		return through, kind
	}
}

// semText is a Sem in full, for what a test tells.
func semText(s impl.Sem) string {
	var parts []string
	for _, rule := range s.Rules {
		parts = append(parts, rule.Name+": "+written(rule.Left)+" -> "+written(rule.Right))
	}
	for _, value := range s.Values {
		parts = append(parts, "value "+written(value))
	}
	for _, context := range s.Contexts {
		parts = append(parts, "context "+written(context))
	}
	for _, shape := range s.Shapes {
		parts = append(parts, fmt.Sprintf("shape %s %q %v %d", shape.Name, shape.Text, shape.Leaf, shape.Kids))
	}
	return strings.Join(parts, "; ")
}

// wantRedexes are written as "[0 1] 2", path and rule.
func wantRedexes(t *testing.T, why string, s impl.Sem, x impl.Tree, want ...string) {
	t.Helper()
	list := checkRedexes(t, s, x)
	var got []string
	for _, r := range list {
		got = append(got, fmt.Sprint(append([]int{}, r.Path...), " ", r.Rule))
	}
	if !slices.Equal(got, want) {
		t.Errorf("%s: Redexes of %s are %v and should be %v", why, written(x), got, want)
	}
}

// checkRedexes compares with the model.
func checkRedexes(t *testing.T, s impl.Sem, x impl.Tree) []impl.Redex {
	t.Helper()
	list, code := impl.Redexes(s, x)
	if want := redexesBy(s, x); !sameRedexes(list, want) || code != impl.OK {
		t.Fatalf("%s: Redexes of %s are %v, %d and should be %v", semText(s), written(x), list, code, want)
	}
	return list
}

// checkDo compares with the model, and is Do's code.
func checkDo(t *testing.T, s impl.Sem, x impl.Tree) int {
	t.Helper()
	behind, code := impl.Do(s, x)
	if want, wantCode := doBy(s, x); !sameTree(behind, want) || code != wantCode {
		t.Fatalf("%s: Do of %s is %s, %d and should be %s, %d", semText(s), written(x), written(behind), code, written(want), wantCode)
	}
	return code
}

func wantDo(t *testing.T, why string, s impl.Sem, x impl.Tree, want impl.Tree, wantCode int) {
	t.Helper()
	if behind, code := impl.Do(s, x); !sameTree(behind, want) || code != wantCode {
		t.Errorf("%s: Do of %.200s is %.200s, %d and should be %.200s, %d", why, written(x), written(behind), code, written(want), wantCode)
	}
	checkDo(t, s, x)
}

// checkRun asks that RunSem is Do, again and again, and compares with the model.
func checkRun(t *testing.T, s impl.Sem, x impl.Tree, fuel int) (impl.Tree, int, int) {
	t.Helper()
	end, done, code := impl.RunSem(s, x, fuel)
	for _, do := range []func(s impl.Sem, x impl.Tree) (impl.Tree, int){doBy, impl.Do} {
		want, wantDone, wantCode := runBy(s, x, fuel, do)
		if !sameTree(end, want) || done != wantDone || code != wantCode {
			t.Fatalf("%s: RunSem of %.200s with fuel %d is %.200s, %d, %d and should be %.200s, %d, %d", semText(s), written(x), fuel, written(end), done, code, written(want), wantDone, wantCode)
		}
	}
	return end, done, code
}

func wantRun(t *testing.T, why string, s impl.Sem, x impl.Tree, fuel int, want impl.Tree, wantDone int, wantCode int) {
	t.Helper()
	if end, done, code := checkRun(t, s, x, fuel); !sameTree(end, want) || done != wantDone || code != wantCode {
		t.Errorf("%s: RunSem of %.200s with fuel %d is %.200s, %d, %d and should be %.200s, %d, %d", why, written(x), fuel, written(end), done, code, written(want), wantDone, wantCode)
	}
}

// checkWitness compares with the model, and asks that where there is none each tree has one redex, or none and is a value.
func checkWitness(t *testing.T, s impl.Sem, size int) (impl.Badly, int) {
	t.Helper()
	badly, code := impl.Witness(s, size)
	want, wantCode := witnessBy(s, size)
	if badly.Kind != want.Kind || !sameTree(badly.Tree, want.Tree) || code != wantCode {
		t.Fatalf("%s: Witness up to %d is %d %s, %d and should be %d %s, %d", semText(s), size, badly.Kind, written(badly.Tree), code, want.Kind, written(want.Tree), wantCode)
	}
	if code == impl.OK && badly.Kind == 0 {
		for _, made := range shapedBy(s.Shapes, size) {
			list, _ := impl.Redexes(s, made.tree)
			if _, _, end := impl.RunSem(s, made.tree, 0); len(list) > 1 || len(list) == 0 && end != impl.OK || len(list) == 1 && valueBy(s, made.tree) {
				t.Fatalf("%s: there is no witness, and %s is told badly", semText(s), written(made.tree))
			}
		}
	}
	return badly, code
}

func wantWitness(t *testing.T, why string, s impl.Sem, size int, wantKind int, want impl.Tree, wantCode int) {
	t.Helper()
	if badly, code := checkWitness(t, s, size); badly.Kind != wantKind || !sameTree(badly.Tree, want) || code != wantCode {
		t.Errorf("%s: Witness up to %d is %d %s, %d and should be %d %s, %d", why, size, badly.Kind, written(badly.Tree), code, wantKind, written(want), wantCode)
	}
}

// checkLess compares with the model, asks for what the promise says of what is left, and tells all that it came through.
func checkLess(t *testing.T, s impl.Sem, x impl.Tree) ([]impl.Tree, int) {
	t.Helper()
	less, kind, code := impl.Less(s, x)
	if badlyBy(s, x) == 0 {
		if !isZero(less) || kind != 0 || code != impl.ErrNone {
			t.Fatalf("%s: Less of %s is %s, %d, %d", semText(s), written(x), written(less), kind, code)
		}
		return nil, 0
	}
	through, wantKind := lessBy(s, x)
	want := through[len(through)-1]
	if !sameTree(less, want) || kind != wantKind || code != impl.OK {
		t.Fatalf("%s: Less of %s is %s, %d, %d and should be %s, %d", semText(s), written(x), written(less), kind, code, written(want), wantKind)
	}
	if badlyBy(s, less) != badlyBy(s, x) || treeCount(less) > treeCount(x) {
		t.Fatalf("%s: Less of %s, %s, is told in another way, or is larger", semText(s), written(x), written(less))
	}
	return through, kind
}

func wantLess(t *testing.T, why string, s impl.Sem, x impl.Tree, want impl.Tree, wantKind int) {
	t.Helper()
	if less, kind, code := impl.Less(s, x); !sameTree(less, want) || kind != wantKind || code != impl.OK {
		t.Errorf("%s: Less of %.200s is %.200s, %d, %d and should be %.200s, %d", why, written(x), written(less), kind, code, written(want), wantKind)
	}
	checkLess(t, s, x)
}

// allBad asks for ErrBad of all that take a Sem and a tree.
func allBad(t *testing.T, why string, s impl.Sem, x impl.Tree) {
	t.Helper()
	if list, code := impl.Redexes(s, x); len(list) > 0 || code != impl.ErrBad {
		t.Errorf("%s: Redexes answers %v, %d", why, list, code)
	}
	if u, code := impl.Do(s, x); !isZero(u) || code != impl.ErrBad {
		t.Errorf("%s: Do answers code %d", why, code)
	}
	if u, done, code := impl.RunSem(s, x, 5); !isZero(u) || done != 0 || code != impl.ErrBad {
		t.Errorf("%s: RunSem answers %d, %d", why, done, code)
	}
	if u, kind, code := impl.Less(s, x); !isZero(u) || kind != 0 || code != impl.ErrBad {
		t.Errorf("%s: Less answers %d, %d", why, kind, code)
	}
}

func noWitness(t *testing.T, why string, s impl.Sem, size int, want int) {
	t.Helper()
	if badly, code := impl.Witness(s, size); badly.Kind != 0 || !isZero(badly.Tree) || code != want {
		t.Errorf("%s: Witness up to %d answers %d, %d and should %d", why, size, badly.Kind, code, want)
	}
}

// noSem asks for ErrBad of all functions.
func noSem(t *testing.T, why string, s impl.Sem) {
	t.Helper()
	if impl.SemOK(s) {
		t.Errorf("%s: SemOK is true", why)
	}
	for _, x := range []impl.Tree{leaf("a", ""), node("F", node("F", leaf("a", "")))} {
		allBad(t, why, s, x)
	}
	noWitness(t, why, s, 1, impl.ErrBad)
}

// wantSem asks for no ErrBad of any function.
func wantSem(t *testing.T, why string, s impl.Sem) {
	t.Helper()
	if !impl.SemOK(s) {
		t.Errorf("%s: SemOK is false", why)
	}
	x := tree(`(F (F a"") b"")`)
	_, redexes := impl.Redexes(s, x)
	_, do := impl.Do(s, x)
	_, _, run := impl.RunSem(s, x, 5)
	_, witness := impl.Witness(s, 1)
	_, _, less := impl.Less(s, x)
	if slices.Contains([]int{redexes, do, run, witness, less}, impl.ErrBad) {
		t.Errorf("%s: the codes are %d, %d, %d, %d, %d", why, redexes, do, run, witness, less)
	}
}

func copySem(s impl.Sem) impl.Sem {
	s.Rules, s.Shapes = copyRwRules(s.Rules), slices.Clone(s.Shapes)
	s.Values, s.Contexts = slices.Clone(s.Values), slices.Clone(s.Contexts)
	for _, list := range [][]impl.Tree{s.Values, s.Contexts} {
		for i := range list {
			list[i] = copyTree(list[i])
		}
	}
	return s
}

// withVals is a pattern of chapter 11 with some of its variables as a Val.
func withVals(r *rand.Rand, p impl.Tree) impl.Tree {
	if isVar(p) && r.Intn(2) == 0 {
		p.Name = "Val"
	}
	kids := p.Kids
	p.Kids = nil
	for _, kid := range kids {
		p.Kids = append(p.Kids, withVals(r, kid))
	}
	return p
}

// someSemPattern is one that is no variable.
func someSemPattern(r *rand.Rand, depth int) impl.Tree {
	for {
		if p := withVals(r, somePatternOf(r, someAdding(r, depth))); !isSemVariable(p) {
			return p
		}
	}
}

func someContext(r *rand.Rand) impl.Tree {
	for {
		p := someSemPattern(r, 2+r.Intn(2))
		if paths := pathsOf(p); len(paths) > 1 {
			return putBy(p, oneOf(r, paths[1:]...), leaf("Hole", ""))
		}
	}
}

// someRight has no variables but those of left, now a Var and now a Val.
func someRight(r *rand.Rand, left impl.Tree) impl.Tree {
	var variables []impl.Tree
	for _, path := range pathsOf(left) {
		if v := under(left, path); isSemVariable(v) {
			variables = append(variables, leaf(oneOf(r, "Var", "Val"), v.Text))
		}
	}
	right := someAdding(r, 1+r.Intn(2))
	for range len(variables) {
		right = putBy(right, oneOf(r, pathsOf(right)...), oneOf(r, variables...))
	}
	return right
}

// someSem is for the trees of someAdding.
func someSem(r *rand.Rand) impl.Sem {
	s := impl.Sem{Shapes: []impl.Shape{{Name: "N", Text: "0", Leaf: true}, nodeShape("Add", 2), nodeShape("F", 1), {Name: "N", Text: "1", Leaf: true}, nodeShape("F", 0)}}
	r.Shuffle(len(s.Shapes), func(i int, j int) { s.Shapes[i], s.Shapes[j] = s.Shapes[j], s.Shapes[i] })
	for i := range r.Intn(4) {
		left := someSemPattern(r, 1+r.Intn(3))
		s.Rules = append(s.Rules, impl.RwRule{Name: fmt.Sprint("r", i), Left: left, Right: someRight(r, left)})
	}
	for range r.Intn(4) {
		s.Values = append(s.Values, someSemPattern(r, 1+r.Intn(3)))
	}
	for range r.Intn(6) {
		s.Contexts = append(s.Contexts, oneOf(r, someContext(r), oneOf(r, treesOf(`(Add Hole"" Var"x")`, `(Add Var"x" Hole"")`, `(Add Val"x" Hole"")`, `(F Hole"")`)...)))
	}
	return s
}
