package tests

import (
	"fmt"
	"math/rand"
	"regexp"
	"slices"
	"strconv"
	"strings"
	"testing"

	"loop.example/g00037/impl"
)

// pattern reads one in which variables (with a small letter first) and leaves N of digits stand bare: (F x (G 1)).
func pattern(text string) impl.Tree {
	text = bareNums.ReplaceAllString(text, `N"$0"`)
	return tree(bareIds.ReplaceAllString(text, `Var"$0"`))
}

func pair(left impl.Tree, right impl.Tree) impl.Same { return impl.Same{Left: left, Right: right} }

// pairs are written as patterns with = between: "x = (F y)".
func pairs(texts ...string) []impl.Same {
	list := []impl.Same{}
	for _, text := range texts {
		left, right, found := strings.Cut(text, " = ")
		if !found {
			panic(text)
		}
		list = append(list, pair(pattern(left), pattern(right)))
	}
	return list
}

func pairsText(list []impl.Same) string {
	var texts []string
	for _, one := range list {
		texts = append(texts, written(one.Left)+" = "+written(one.Right))
	}
	return strings.Join(texts, ", ")
}

// bindsOf are written as "x=(F y)", each a text of its own.
func bindsOf(texts []string) []impl.Bind {
	var binds []impl.Bind
	for _, text := range texts {
		name, bound, _ := strings.Cut(text, "=")
		binds = append(binds, bind(name, pattern(bound)))
	}
	return binds
}

// variablesIn are the names of the variables, in the order in which they first stand.
func variablesIn(trees ...impl.Tree) []string {
	var names []string
	for _, x := range trees {
		for _, path := range pathsOf(x) {
			if v := under(x, path); isVar(v) && !slices.Contains(names, v.Text) {
				names = append(names, v.Text)
			}
		}
	}
	return names
}

func sides(list []impl.Same) []impl.Tree {
	var trees []impl.Tree
	for _, one := range list {
		trees = append(trees, one.Left, one.Right)
	}
	return trees
}

// unifyBy takes pair by pair, and puts what it says of a variable in its place, in all else; without any limit.
func unifyBy(list []impl.Same) ([]impl.Bind, bool) {
	order := variablesIn(sides(list)...)
	waiting := slices.Clone(list)
	var binds []impl.Bind
	for len(waiting) > 0 {
		left, right := waiting[0].Left, waiting[0].Right
		waiting = waiting[1:]
		if isVar(right) && (!isVar(left) || slices.Index(order, left.Text) < slices.Index(order, right.Text)) {
			left, right = right, left
		}
		switch {
		case sameTree(left, right):
		case isVar(left):
			if slices.Contains(variablesIn(right), left.Text) {
				return nil, false
			}
			one := []impl.Bind{bind(left.Text, right)}
			for i, other := range waiting {
				waiting[i] = pair(fillBy(other.Left, one), fillBy(other.Right, one))
			}
			for i, other := range binds {
				binds[i].Tree = fillBy(other.Tree, one)
			}
			binds = append(binds, one...)
		case left.Name != right.Name || left.Text != right.Text || left.Leaf != right.Leaf || len(left.Kids) != len(right.Kids):
			return nil, false
		default:
			for i := range left.Kids {
				waiting = append(waiting, pair(left.Kids[i], right.Kids[i]))
			}
		}
	}
	slices.SortFunc(binds, func(a impl.Bind, b impl.Bind) int {
		return slices.Index(order, a.Name) - slices.Index(order, b.Name)
	})
	return binds, true
}

// checkUnify compares with the model, and asks what promise 20 asks of pairs that can be the same.
func checkUnify(t *testing.T, list []impl.Same) ([]impl.Bind, bool, int) {
	t.Helper()
	want, wantOK := unifyBy(list)
	wantCode := impl.OK
	if slices.ContainsFunc(want, func(b impl.Bind) bool { return !impl.TreeOK(b.Tree) }) {
		want, wantOK, wantCode = nil, false, impl.ErrFull
	}
	binds, ok, code := impl.Unify(list)
	if !sameBinds(binds, want) || ok != wantOK || code != wantCode {
		t.Fatalf("Unify of %.600s: %.300s, %v, %d and should be %.300s, %v, %d", pairsText(list), bindsText(binds), ok, code, bindsText(want), wantOK, wantCode)
	}
	if ok {
		sameWhenFilled(t, list, binds)
	}
	return binds, ok, code
}

// sameWhenFilled is promise 20, and what else is said of binds: no variable in them has one itself, and they come as the variables first stand.
func sameWhenFilled(t *testing.T, list []impl.Same, binds []impl.Bind) {
	t.Helper()
	at := 0
	all := slices.Clone(binds)
	for _, name := range variablesIn(sides(list)...) {
		if at < len(binds) && binds[at].Name == name {
			at++
			continue
		}
		all = append(all, bind(name, variable(name)))
	}
	if at < len(binds) {
		t.Fatalf("%.300s: binds in another order, or of no variable: %.300s", pairsText(list), bindsText(binds))
	}
	for _, b := range binds {
		for _, name := range variablesIn(b.Tree) {
			if _, bound := boundTo(binds, name); bound {
				t.Fatalf("%.300s: %s stands in %s", pairsText(list), name, written(b.Tree))
			}
		}
	}
	for _, one := range list {
		left, leftCode := impl.Fill(one.Left, all)
		right, rightCode := impl.Fill(one.Right, all)
		if leftCode == impl.ErrFull && rightCode == impl.ErrFull {
			continue
		}
		if leftCode != impl.OK || rightCode != impl.OK || !sameTree(left, right) {
			t.Fatalf("%.300s filled: %.300s, %d and %.300s, %d", pairsText(list), written(left), leftCode, written(right), rightCode)
		}
	}
}

// wantUnified asks for binds that are written down, and for what the model says.
func wantUnified(t *testing.T, why string, list []impl.Same, want ...string) {
	t.Helper()
	if binds, ok, code := checkUnify(t, list); !ok || code != impl.OK || !sameBinds(binds, bindsOf(want)) {
		t.Errorf("%s: %s: %s, %v, %d and should be %v", why, pairsText(list), bindsText(binds), ok, code, want)
	}
	if places, code := impl.Blame(list); len(places) != 0 || code != impl.ErrNone {
		t.Errorf("%s: Blame of %s: %v, %d", why, pairsText(list), places, code)
	}
}

// wantParted asks for pairs that can't be the same, and for what Blame says of them.
func wantParted(t *testing.T, why string, list []impl.Same, want ...int) {
	t.Helper()
	if binds, ok, code := checkUnify(t, list); ok || code != impl.OK || len(binds) != 0 {
		t.Errorf("%s: %s: %s, %v, %d", why, pairsText(list), bindsText(binds), ok, code)
	}
	if places := checkBlame(t, list); !slices.Equal(places, want) {
		t.Errorf("%s: Blame of %s: %v and should be %v", why, pairsText(list), places, want)
	}
}

// wantFullPairs asks for binds that are too large; Blame says that all can be the same.
func wantFullPairs(t *testing.T, why string, list []impl.Same) {
	t.Helper()
	if binds, ok, code := impl.Unify(list); ok || code != impl.ErrFull || len(binds) != 0 {
		t.Errorf("%s: %d binds, %v, %d and should be ErrFull", why, len(binds), ok, code)
	}
	if places, code := impl.Blame(list); len(places) != 0 || code != impl.ErrNone {
		t.Errorf("%s: Blame is %v, %d", why, places, code)
	}
}

// noPairs asks for ErrBad of both.
func noPairs(t *testing.T, why string, list []impl.Same) {
	t.Helper()
	if binds, ok, code := impl.Unify(list); ok || code != impl.ErrBad || len(binds) != 0 {
		t.Errorf("%s: %d binds, %v, %d", why, len(binds), ok, code)
	}
	if places, code := impl.Blame(list); len(places) != 0 || code != impl.ErrBad {
		t.Errorf("%s: Blame is %v, %d", why, places, code)
	}
}

func pairsAt(list []impl.Same, places []int) []impl.Same {
	var some []impl.Same
	for _, place := range places {
		some = append(some, list[place])
	}
	return some
}

// blameBy leaves out one after the other, by what the model says.
func blameBy(list []impl.Same) ([]int, int) {
	var left []int
	for i := range list {
		left = append(left, i)
	}
	if _, ok := unifyBy(list); ok {
		return nil, impl.ErrNone
	}
	for i := len(list) - 1; i >= 0; i-- {
		without := slices.DeleteFunc(slices.Clone(left), func(place int) bool { return place == i })
		if _, ok := unifyBy(pairsAt(list, without)); !ok {
			left = without
		}
	}
	return left, impl.OK
}

// checkBlame compares with the model, and asks what promise 20 asks of pairs that can't be the same.
func checkBlame(t *testing.T, list []impl.Same) []int {
	t.Helper()
	places, code := impl.Blame(list)
	if want, wantCode := blameBy(list); !slices.Equal(places, want) || code != wantCode {
		t.Fatalf("Blame of %.600s: %v, %d and should be %v, %d", pairsText(list), places, code, want, wantCode)
	}
	if code == impl.OK {
		blamedRightly(t, list, places)
	}
	return places
}

// blamedRightly asks Unify: those that are told can't be the same, and can without any one of them.
func blamedRightly(t *testing.T, list []impl.Same, places []int) {
	t.Helper()
	if binds, ok, code := impl.Unify(pairsAt(list, places)); ok || code != impl.OK || len(binds) != 0 {
		t.Fatalf("%.600s: %v can be the same, or is %d", pairsText(list), places, code)
	}
	for i := range places {
		if _, ok, code := impl.Unify(pairsAt(list, slices.Delete(slices.Clone(places), i, i+1))); !ok && code != impl.ErrFull {
			t.Fatalf("%.600s: %v can't be the same without %d", pairsText(list), places, places[i])
		}
	}
}

var bareKinds = regexp.MustCompile(`\b(Int|Bool)\b`)

// kind reads a type in which Int, Bool and variables stand bare: (Fun a (Fun Int a)).
func kind(text string) impl.Tree {
	return tree(bareIds.ReplaceAllString(bareKinds.ReplaceAllString(text, `$0""`), `Var"$0"`))
}

func fun(from impl.Tree, to impl.Tree) impl.Tree { return node("Fun", from, to) }

// typeStop is the fault at which the model stops.
type typeStop struct {
	code int
	path []int
}

// knownName is a name that is declared around: of a Lam with its type, of a Let with the term that it stands for and the names around that.
type knownName struct {
	name   string
	kind   impl.Tree
	stands *impl.Tree
	around []knownName
}

// typer takes for a name of a Let, at each place, what its a is, worked out anew there: no type is ever copied. Known is all that was said so far.
type typer struct {
	fresh int
	known []impl.Bind
}

func (m *typer) variable() impl.Tree {
	m.fresh++
	return variable("v" + strconv.Itoa(m.fresh))
}

// say makes pairs the same, beside all that was said.
func (m *typer) say(list ...impl.Same) bool {
	for i, one := range list {
		list[i] = pair(fillBy(one.Left, m.known), fillBy(one.Right, m.known))
	}
	news, ok := unifyBy(list)
	if len(news) == 0 {
		return ok
	}
	for i, b := range m.known {
		m.known[i].Tree = fillBy(b.Tree, news)
	}
	m.known = append(m.known, news...)
	return ok
}

// through is a term's type; again is for what a name of a Let stands for: its nodes were gone through already.
func (m *typer) through(x impl.Tree, path []int, around []knownName, again bool) impl.Tree {
	part := func(place int, names []knownName) impl.Tree {
		return m.through(x.Kids[place], append(slices.Clone(path), place), names, again)
	}
	stop := func(code int) {
		if again {
			panic(fmt.Sprint("the model finds ", code, " in what had a type: ", written(x)))
		}
		panic(typeStop{code, path})
	}
	number, flag := leaf("Int", ""), leaf("Bool", "")
	var is impl.Tree
	var said []impl.Same
	switch x.Name {
	case "Id":
		i := len(around) - 1
		for i >= 0 && around[i].name != x.Text {
			i--
		}
		switch {
		case i < 0:
			stop(impl.ErrUndef)
		case around[i].stands != nil:
			is = m.through(*around[i].stands, nil, around[i].around, true)
		default:
			is = around[i].kind
		}
	case "Num":
		is = number
	case "Yes", "No":
		is = flag
	case "Lam":
		from := m.variable()
		is = fun(from, part(1, append(slices.Clone(around), knownName{name: x.Kids[0].Text, kind: from})))
	case "Let":
		part(1, around)
		is = part(2, append(slices.Clone(around), knownName{name: x.Kids[0].Text, stands: &x.Kids[1], around: around}))
	case "App":
		a, b := part(0, around), part(1, around)
		is = m.variable()
		said = []impl.Same{pair(a, fun(b, is))}
	case "If":
		a, b, c := part(0, around), part(1, around), part(2, around)
		is, said = b, []impl.Same{pair(a, flag), pair(b, c)}
	default:
		a, b := part(0, around), part(1, around)
		is, said = number, []impl.Same{pair(a, number), pair(b, number)}
		if x.Name == "Eq" {
			is = flag
		}
	}
	if !m.say(said...) {
		stop(impl.ErrType)
	}
	if !again && !impl.TreeOK(fillBy(is, m.known)) {
		panic(typeStop{code: impl.ErrFull})
	}
	return is
}

// calledBy is what the variable with a number is called.
func calledBy(number int) string {
	if number < 26 {
		return string(rune('a' + number))
	}
	return string(rune('a'+number%26)) + strconv.Itoa(number/26)
}

// typeBy is what the document says of TypeOf, for a term.
func typeBy(x impl.Tree) (is impl.Tree, path []int, code int) {
	defer func() {
		if caught := recover(); caught != nil {
			stop, ok := caught.(typeStop)
			if !ok {
				panic(caught)
			}
			is, path, code = impl.Tree{}, stop.path, stop.code
		}
	}()
	m := typer{}
	is = fillBy(m.through(x, nil, nil, false), m.known)
	var names []impl.Bind
	for i, name := range variablesIn(is) {
		names = append(names, bind(name, variable(calledBy(i))))
	}
	return fillBy(is, names), nil, impl.OK
}

// checkType compares with the model, and is what was answered.
func checkType(t *testing.T, x impl.Tree) (impl.Tree, []int, int) {
	t.Helper()
	is, path, code := impl.TypeOf(x)
	if want, wantPath, wantCode := typeBy(x); !sameTree(is, want) || !slices.Equal(path, wantPath) || code != wantCode {
		t.Fatalf("TypeOf %.600s: %.300s, %v, %d and should be %.300s, %v, %d", written(x), written(is), path, code, written(want), wantPath, wantCode)
	}
	return is, path, code
}

// wantType asks for what is written down, and for what the model says.
func wantType(t *testing.T, why string, x string, want string) {
	t.Helper()
	if is, path, code := checkType(t, term(x)); code != impl.OK || len(path) != 0 || !sameTree(is, kind(want)) {
		t.Errorf("%s: %s: %s, %v, %d and should be %s", why, x, written(is), path, code, want)
	}
}

// noType asks for a code and a path, and for what the model says.
func noType(t *testing.T, why string, x string, wantCode int, wantPath ...int) {
	t.Helper()
	if is, path, code := checkType(t, term(x)); code != wantCode || !slices.Equal(path, wantPath) || !sameTree(is, impl.Tree{}) {
		t.Errorf("%s: %s: %s, %v, %d and should be %d, %v", why, x, written(is), path, code, wantCode, wantPath)
	}
}

// isAs tells whether a type is another one or a more general one.
func isAs(t *testing.T, general impl.Tree, other impl.Tree) bool {
	t.Helper()
	_, fits, code := impl.Match(general, other)
	if code != impl.OK {
		t.Fatalf("Match of %s and %s is %d", written(general), written(other), code)
	}
	return fits
}

// doneAt are the terms that come when one Let or applied Lam is done, each where it stands, as far as they are terms.
func doneAt(x impl.Tree) []impl.Tree {
	var list []impl.Tree
	for _, path := range pathsOf(x) {
		at := under(x, path)
		var put impl.Tree
		code := impl.ErrNone
		switch {
		case at.Name == "Let":
			put, code = impl.Subst(at.Kids[2], at.Kids[0].Text, at.Kids[1])
		case at.Name == "App" && at.Kids[0].Name == "Lam":
			put, code = impl.Subst(at.Kids[0].Kids[1], at.Kids[0].Kids[0].Text, at.Kids[1])
		}
		if done := putBy(x, path, put); code == impl.OK && impl.TermOK(done) {
			list = append(list, done)
		}
	}
	return list
}

// keepsType is promise 21: it tells how many terms came of x, and how many of these have a more general type than x.
func keepsType(t *testing.T, x impl.Tree) (came int, more int) {
	t.Helper()
	is, path, code := impl.TypeOf(x)
	if code != impl.OK {
		t.Fatalf("%s has no type: %v, %d", written(x), path, code)
	}
	for _, done := range doneAt(x) {
		now, path, code := impl.TypeOf(done)
		if code == impl.ErrFull {
			continue
		}
		if code != impl.OK || !isAs(t, now, is) {
			t.Fatalf("%s is %s, and %s is %s, %v, %d", written(x), written(is), written(done), written(now), path, code)
		}
		came++
		more += oneFor(!isAs(t, is, now))
	}
	return came, more
}

// typedName is a name that a made-up term may refer to; with any it is a Let's (Lam x x) and more such, that can be taken for several types.
type typedName struct {
	name string
	kind impl.Tree
	any  string
}

var anyTerms = map[string]impl.Tree{
	"same":  term(`(Lam a a)`),
	"first": term(`(Lam a (Lam b a))`),
	"call":  term(`(Lam f (Lam a (App f a)))`),
	"twice": term(`(Lam f (Lam a (App f (App f a))))`),
	"inner": term(`(Let g (Lam a a) (App g g))`),
}

func someKind(r *rand.Rand, depth int) impl.Tree {
	if depth == 1 || r.Intn(3) == 0 {
		return oneOf(r, leaf("Int", ""), leaf("Bool", ""))
	}
	return fun(someKind(r, depth-1), someKind(r, depth-1))
}

// someTyped is a term that has a type (this one, or a more general one), where all of around have theirs.
func someTyped(r *rand.Rand, is impl.Tree, around []typedName, depth int) impl.Tree {
	of := func(is impl.Tree, more ...typedName) impl.Tree {
		return someTyped(r, is, append(slices.Clone(around), more...), depth-1)
	}
	if depth <= 1 || r.Intn(5) == 0 {
		return someSmallTyped(r, is, around)
	}
	switch r.Intn(8) {
	case 0:
		return node("If", of(leaf("Bool", "")), of(is), of(is))
	case 1, 2:
		name, from := oneOf(r, "x", "y", "z"), someKind(r, 2)
		return app(lam(name, of(is, typedName{name: name, kind: from})), of(from))
	case 3:
		name, other := oneOf(r, "x", "y", "z"), someKind(r, 2)
		return let(name, of(other), of(is, typedName{name: name, kind: other}))
	case 4, 5:
		name := oneOf(r, "x", "y", "z")
		any := oneOf(r, "same", "first", "call", "twice", "inner")
		return let(name, anyTerms[any], of(is, typedName{name: name, any: any}))
	case 6:
		from := someKind(r, 2)
		return app(of(fun(from, is)), of(from))
	}
	return someMadeTyped(r, is, around, depth)
}

// someMadeTyped has the form that goes with its type.
func someMadeTyped(r *rand.Rand, is impl.Tree, around []typedName, depth int) impl.Tree {
	number := func() impl.Tree { return someTyped(r, leaf("Int", ""), around, depth-1) }
	switch is.Name {
	case "Int":
		return node("Add", number(), number())
	case "Bool":
		return node("Eq", number(), number())
	}
	name := oneOf(r, "x", "y", "z")
	return lam(name, someTyped(r, is.Kids[1], append(slices.Clone(around), typedName{name: name, kind: is.Kids[0]}), depth-1))
}

// someSmallTyped takes a name, when one can be.
func someSmallTyped(r *rand.Rand, is impl.Tree, around []typedName) impl.Tree {
	var can []impl.Tree
	hidden := []string{}
	for _, known := range slices.Backward(around) {
		fits := known.any == "" && sameTree(known.kind, is)
		fits = fits || (known.any == "same" || known.any == "inner") && is.Name == "Fun" && sameTree(is.Kids[0], is.Kids[1])
		if fits && !slices.Contains(hidden, known.name) {
			can = append(can, id(known.name))
		}
		hidden = append(hidden, known.name)
	}
	if len(can) > 0 && r.Intn(4) > 0 {
		return oneOf(r, can...)
	}
	switch is.Name {
	case "Int":
		return leaf("Num", strconv.Itoa(r.Intn(12)))
	case "Bool":
		return leaf(oneOf(r, "Yes", "No"), "")
	}
	name := oneOf(r, "x", "y", "z")
	return lam(name, someSmallTyped(r, is.Kids[1], append(slices.Clone(around), typedName{name: name, kind: is.Kids[0]})))
}
