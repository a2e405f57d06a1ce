package tests

import (
	"fmt"
	"math/rand"
	"slices"
	"strings"
	"testing"

	"loop.example/g00037/impl"
)

// tree reads a text that is one.
func tree(text string) impl.Tree {
	t, code, at := impl.TreeRead(text)
	if code != impl.OK {
		panic(text + " is no tree from " + text[at:] + " on")
	}
	return t
}

func variable(name string) impl.Tree { return leaf("Var", name) }

func isVar(p impl.Tree) bool { return p.Leaf && p.Name == "Var" }

func bind(name string, t impl.Tree) impl.Bind { return impl.Bind{Name: name, Tree: t} }

// rule is one that is written as two trees.
func rule(name string, left string, right string) impl.RwRule {
	return impl.RwRule{Name: name, Left: tree(left), Right: tree(right)}
}

// boundTo is the tree that binds have for a name.
func boundTo(binds []impl.Bind, name string) (impl.Tree, bool) {
	i := slices.IndexFunc(binds, func(b impl.Bind) bool { return b.Name == name })
	if i < 0 {
		return impl.Tree{}, false
	}
	return binds[i].Tree, true
}

// fillBy puts trees in a pattern; without a tree for it a variable stays.
func fillBy(p impl.Tree, binds []impl.Bind) impl.Tree {
	if isVar(p) {
		if t, bound := boundTo(binds, p.Text); bound {
			return copyTree(t)
		}
	}
	kids := p.Kids
	p.Kids = nil
	for _, kid := range kids {
		p.Kids = append(p.Kids, fillBy(kid, binds))
	}
	return p
}

func leads(t impl.Tree, path []int) bool {
	for _, i := range path {
		if i >= len(t.Kids) {
			return false
		}
		t = t.Kids[i]
	}
	return true
}

// matchBy takes for each variable what stands in t where it stands first in p: t is p with trees in it just when it is p with these.
func matchBy(p impl.Tree, t impl.Tree) ([]impl.Bind, bool) {
	var binds []impl.Bind
	for _, path := range pathsOf(p) {
		v := under(p, path)
		if !isVar(v) {
			continue
		}
		if !leads(t, path) {
			return nil, false
		}
		if _, bound := boundTo(binds, v.Text); !bound {
			binds = append(binds, bind(v.Text, under(t, path)))
		}
	}
	if !sameTree(fillBy(p, binds), t) {
		return nil, false
	}
	return binds, true
}

func sameBinds(a []impl.Bind, b []impl.Bind) bool {
	return slices.EqualFunc(a, b, func(x impl.Bind, y impl.Bind) bool { return x.Name == y.Name && sameTree(x.Tree, y.Tree) })
}

// bindsText is "x=N"1" y=(F)".
func bindsText(binds []impl.Bind) string {
	var texts []string
	for _, b := range binds {
		texts = append(texts, b.Name+"="+written(b.Tree))
	}
	return strings.Join(texts, " ")
}

// checkMatch asks for what the model says, and that a tree that Matches is the pattern, Filled.
func checkMatch(t *testing.T, p impl.Tree, x impl.Tree) ([]impl.Bind, bool) {
	t.Helper()
	binds, fits, code := impl.Match(p, x)
	want, wantFits := matchBy(p, x)
	if !sameBinds(binds, want) || fits != wantFits || code != impl.OK {
		t.Fatalf("Match of %s and %s: %s, %v, %d and should be %s, %v", written(p), written(x), bindsText(binds), fits, code, bindsText(want), wantFits)
	}
	if fits {
		wantFilled(t, p, binds, x)
	}
	return binds, fits
}

func wantFilled(t *testing.T, p impl.Tree, binds []impl.Bind, want impl.Tree) {
	t.Helper()
	if filled, code := impl.Fill(p, binds); !sameTree(filled, want) || code != impl.OK {
		t.Fatalf("Fill of %s with %s: %s, %d and should be %s", written(p), bindsText(binds), written(filled), code, written(want))
	}
}

func noFill(t *testing.T, why string, p impl.Tree, binds []impl.Bind, want int) {
	t.Helper()
	if filled, code := impl.Fill(p, binds); !sameTree(filled, impl.Tree{}) || code != want {
		t.Errorf("%s: Fill answers %d nodes and code %d, and should %d", why, len(pathsOf(filled)), code, want)
	}
}

// noMatch asks for ErrBad of all that take a pattern and a tree.
func noMatch(t *testing.T, why string, p impl.Tree, x impl.Tree) {
	t.Helper()
	if binds, fits, code := impl.Match(p, x); len(binds) != 0 || fits || code != impl.ErrBad {
		t.Errorf("%s: Match answers %d binds, %v, %d", why, len(binds), fits, code)
	}
	if places, code := impl.Places(p, x); len(places) != 0 || code != impl.ErrBad {
		t.Errorf("%s: Places answers %v, %d", why, places, code)
	}
}

// checkPlaces asks for the paths of all trees of which the model says that they Match.
func checkPlaces(t *testing.T, p impl.Tree, x impl.Tree) [][]int {
	t.Helper()
	var want [][]int
	for _, path := range pathsOf(x) {
		if _, fits := matchBy(p, under(x, path)); fits {
			want = append(want, path)
		}
	}
	places, code := impl.Places(p, x)
	if !slices.EqualFunc(places, want, slices.Equal[[]int]) || code != impl.OK {
		t.Fatalf("Places of %s in %s: %v, %d and should be %v", written(p), written(x), places, code, want)
	}
	return places
}

// somePatternOf is t with variables in the places of some trees: often the same one for trees that are alike.
func somePatternOf(r *rand.Rand, t impl.Tree) impl.Tree {
	if len(t.Kids) == 0 && r.Intn(2) == 0 || r.Intn(6) == 0 {
		names := []string{"x", "y", "z"}
		return variable(oneOf(r, oneOf(r, names...), names[len(written(t))%len(names)], names[len(written(t))%len(names)]))
	}
	kids := t.Kids
	t.Kids = nil
	for _, kid := range kids {
		t.Kids = append(t.Kids, somePatternOf(r, kid))
	}
	return t
}

// planTokens are the words and signs of a plan, and all other bytes one by one; each with its place.
func planTokens(plan string) ([]string, []int) {
	var tokens []string
	var at []int
	for i := 0; i < len(plan); i++ {
		if plan[i] == ' ' {
			continue
		}
		from := i
		for i+1 < len(plan) && strings.IndexByte(wordBytes, plan[from]) >= 0 && strings.IndexByte(wordBytes, plan[i+1]) >= 0 {
			i++
		}
		tokens, at = append(tokens, plan[from:i+1]), append(at, from)
	}
	return tokens, append(at, len(plan))
}

const wordBytes = "abcdefghijklmnopqrstuvwxyzABCDEFGHIJKLMNOPQRSTUVWXYZ0123456789_"

var bracketWords = []string{"all", "one", "try", "repeat", "down", "up", "inner"}

// planBy goes from word to word, with what may come next and how many brackets are open; it is the code and the place of PlanOK, with rules that are right.
func planBy(names []string, plan string) (int, int) {
	tokens, at := planTokens(plan)
	const prim, bracket, sign = 0, 1, 2
	next, open := prim, 0
	for i, token := range tokens {
		switch {
		case next != sign && token == "(":
			next, open = prim, open+1
		case next == prim && (token == "id" || token == "fail" || slices.Contains(names, token)):
			next = sign
		case next == prim && slices.Contains(bracketWords, token):
			next = bracket
		case next == sign && (token == ";" || token == "|"):
			next = prim
		case next == sign && token == ")" && open > 0:
			open--
		default:
			return impl.ErrText, at[i]
		}
	}
	if next != sign || open > 0 {
		return impl.ErrText, len(plan)
	}
	return impl.OK, 0
}

// planned is a plan, or a part of one: its kind is |, ;, (, a word, id, fail, or else the Name of a rule.
type planned struct {
	kind  string
	parts []planned
}

// plannedBy cuts a plan that is one at the signs that stand in no brackets.
func plannedBy(plan string) planned {
	plan = strings.Trim(plan, " ")
	for _, sign := range []string{"|", ";"} {
		if texts := cutOutside(plan, sign); len(texts) > 1 {
			p := planned{kind: sign}
			for _, text := range texts {
				p.parts = append(p.parts, plannedBy(text))
			}
			return p
		}
	}
	word, behind, bracketed := strings.Cut(plan, "(")
	if !bracketed {
		return planned{kind: plan}
	}
	word = strings.Trim(word, " ")
	if word == "" {
		word = "("
	}
	return planned{kind: word, parts: []planned{plannedBy(strings.TrimSuffix(behind, ")"))}}
}

func cutOutside(plan string, sign string) []string {
	var texts []string
	open, from := 0, 0
	for i := range len(plan) {
		switch {
		case plan[i] == '(':
			open++
		case plan[i] == ')':
			open--
		case plan[i:i+1] == sign && open == 0:
			texts = append(texts, plan[from:i])
			from = i + 1
		}
	}
	return append(texts, plan[from:])
}

func planOf(kind string, parts ...planned) planned { return planned{kind: kind, parts: parts} }

// meant is what the document writes for a word.
func (p planned) meant() planned {
	s := p.parts[0]
	again := planOf("try", planOf("(", planOf(";", s, p)))
	switch p.kind {
	case "try":
		return planOf("(", planOf("|", s, planOf("id")))
	case "repeat":
		return again
	case "down":
		return planOf("(", planOf(";", s, planOf("all", p)))
	case "up":
		return planOf("(", planOf(";", planOf("all", p), s))
	}
	return planOf("(", planOf(";", planOf("all", p), again))
}

// rewriting does plans within the whole tree, and takes back what was done when something else is tried.
type rewriting struct {
	rules []impl.RwRule
	whole impl.Tree
	fuel  int
	steps int
}

// stopped is the code with which the model stops.
type stopped int

// putBy is t with u at a path.
func putBy(t impl.Tree, path []int, u impl.Tree) impl.Tree {
	if len(path) == 0 {
		return u
	}
	t.Kids = slices.Clone(t.Kids)
	t.Kids[path[0]] = putBy(t.Kids[path[0]], path[1:], u)
	return t
}

func (m *rewriting) try(p planned, path []int) bool {
	before := m.whole
	done := m.do(p, path)
	if !done {
		m.whole = before
	}
	return done
}

func (m *rewriting) do(p planned, path []int) bool {
	switch p.kind {
	case "|":
		return slices.ContainsFunc(p.parts, func(part planned) bool { return m.try(part, path) })
	case ";":
		return !slices.ContainsFunc(p.parts, func(part planned) bool { return !m.do(part, path) })
	}
	if m.steps == m.fuel {
		panic(stopped(impl.ErrTired))
	}
	m.steps++
	var kids [][]int
	for i := range under(m.whole, path).Kids {
		kids = append(kids, append(slices.Clone(path), i))
	}
	switch p.kind {
	case "id":
		return true
	case "fail":
		return false
	case "(":
		return m.do(p.parts[0], path)
	case "all":
		return !slices.ContainsFunc(kids, func(kid []int) bool { return !m.do(p.parts[0], kid) })
	case "one":
		return slices.ContainsFunc(kids, func(kid []int) bool { return m.try(p.parts[0], kid) })
	}
	if slices.Contains(bracketWords, p.kind) {
		return m.do(p.meant(), path)
	}
	return m.doRule(p.kind, path)
}

func (m *rewriting) doRule(name string, path []int) bool {
	i := slices.IndexFunc(m.rules, func(rule impl.RwRule) bool { return rule.Name == name })
	binds, fits := matchBy(m.rules[i].Left, under(m.whole, path))
	if !fits {
		return false
	}
	m.whole = putBy(m.whole, path, fillBy(m.rules[i].Right, binds))
	if !impl.TreeOK(m.whole) {
		panic(stopped(impl.ErrFull))
	}
	return true
}

// rewriteBy is what the document says of Rewrite, for a plan that is one.
func rewriteBy(rules []impl.RwRule, plan string, x impl.Tree, fuel int) (whole impl.Tree, done bool, steps int, code int) {
	m := rewriting{rules: rules, whole: x, fuel: fuel}
	defer func() {
		if caught := recover(); caught != nil {
			whole, done, steps, code = impl.Tree{}, false, m.steps, int(caught.(stopped))
		}
	}()
	if !m.do(plannedBy(plan), nil) {
		return impl.Tree{}, false, m.steps, impl.OK
	}
	return m.whole, true, m.steps, impl.OK
}

// answered is all that Rewrite answers, as a text.
func answered(t impl.Tree, done bool, steps int, code int) string {
	return fmt.Sprintf("%s, %v, %d steps, code %d", written(t), done, steps, code)
}

// wantRewritten asks for what is written down, and for what the model says.
func wantRewritten(t *testing.T, rules []impl.RwRule, plan string, x impl.Tree, fuel int, want impl.Tree, wantDone bool, wantSteps int, wantCode int) {
	t.Helper()
	got, text := answered(impl.Rewrite(rules, plan, x, fuel)), answered(want, wantDone, wantSteps, wantCode)
	if got != text {
		t.Errorf("%q of %.120s with fuel %d: %.120s and should be %.120s", plan, written(x), fuel, got, text)
	}
	if model := answered(rewriteBy(rules, plan, x, fuel)); model != text {
		t.Errorf("%q of %.120s with fuel %d: the model says %.120s and should %.120s", plan, written(x), fuel, model, text)
	}
}

// wantDone asks for a tree, with as much fuel as there can be and with just as much as it needs; with one less it is tired.
func wantDone(t *testing.T, rules []impl.RwRule, plan string, x impl.Tree, want impl.Tree, steps int) {
	t.Helper()
	for _, fuel := range []int{impl.MaxFuel, steps + 1, steps} {
		wantRewritten(t, rules, plan, x, fuel, want, true, steps, impl.OK)
	}
	wantTired(t, rules, plan, x, steps-1)
}

// wantFails is the same for a plan that fails.
func wantFails(t *testing.T, rules []impl.RwRule, plan string, x impl.Tree, steps int) {
	t.Helper()
	for _, fuel := range []int{impl.MaxFuel, steps + 1, steps} {
		wantRewritten(t, rules, plan, x, fuel, impl.Tree{}, false, steps, impl.OK)
	}
	wantTired(t, rules, plan, x, steps-1)
}

func wantTired(t *testing.T, rules []impl.RwRule, plan string, x impl.Tree, fuel int) {
	t.Helper()
	wantRewritten(t, rules, plan, x, fuel, impl.Tree{}, false, fuel, impl.ErrTired)
}

// wantFull asks for ErrFull at a step, and with less fuel for ErrTired.
func wantFull(t *testing.T, rules []impl.RwRule, plan string, x impl.Tree, steps int) {
	t.Helper()
	for _, fuel := range []int{impl.MaxFuel, steps} {
		wantRewritten(t, rules, plan, x, fuel, impl.Tree{}, false, steps, impl.ErrFull)
	}
	wantTired(t, rules, plan, x, steps-1)
}

// checkRewrite compares with the model, and is what was answered.
func checkRewrite(t *testing.T, rules []impl.RwRule, plan string, x impl.Tree, fuel int) (impl.Tree, bool, int, int) {
	t.Helper()
	got, done, steps, code := impl.Rewrite(rules, plan, x, fuel)
	if text, want := answered(got, done, steps, code), answered(rewriteBy(rules, plan, x, fuel)); text != want {
		t.Fatalf("%q of %s with fuel %d: %s and should be %s", plan, written(x), fuel, text, want)
	}
	return got, done, steps, code
}

// noPlan asks for a code and a place of PlanOK, and for ErrBad of Rewrite.
func noPlan(t *testing.T, why string, rules []impl.RwRule, plan string, wantCode int, wantAt int) {
	t.Helper()
	if code, at := impl.PlanOK(rules, plan); code != wantCode || at != wantAt {
		t.Errorf("%s: PlanOK of %q is %d, %d and should be %d, %d", why, plan, code, at, wantCode, wantAt)
	}
	if got := answered(impl.Rewrite(rules, plan, leaf("a", ""), 10)); got != answered(impl.Tree{}, false, 0, impl.ErrBad) {
		t.Errorf("%s: Rewrite by %q is %s", why, plan, got)
	}
}

func wantPlan(t *testing.T, why string, rules []impl.RwRule, plan string) {
	t.Helper()
	if code, at := impl.PlanOK(rules, plan); code != impl.OK || at != 0 {
		t.Errorf("%s: PlanOK of %q is %d, %d", why, plan, code, at)
	}
	if _, _, _, code := impl.Rewrite(rules, plan, leaf("a", ""), 10); code == impl.ErrBad {
		t.Errorf("%s: Rewrite by %q is ErrBad", why, plan)
	}
}

func copyRwRules(rules []impl.RwRule) []impl.RwRule {
	rules = slices.Clone(rules)
	for i := range rules {
		rules[i].Left, rules[i].Right = copyTree(rules[i].Left), copyTree(rules[i].Right)
	}
	return rules
}

func sameRwRules(a []impl.RwRule, b []impl.RwRule) bool {
	return slices.EqualFunc(a, b, func(x impl.RwRule, y impl.RwRule) bool {
		return x.Name == y.Name && sameTree(x.Left, y.Left) && sameTree(x.Right, y.Right)
	})
}

// somePlan has all prims and words, with blanks here and there.
func somePlan(r *rand.Rand, names []string, depth int) string {
	var ways []string
	for range oneOf(r, 1, 1, 1, 2, 3) {
		var row []string
		for range oneOf(r, 1, 1, 2, 3) {
			row = append(row, oneOf(r, "", "", " ")+somePrim(r, names, depth)+oneOf(r, "", "", "  "))
		}
		ways = append(ways, strings.Join(row, ";"))
	}
	return strings.Join(ways, "|")
}

func somePrim(r *rand.Rand, names []string, depth int) string {
	if depth == 1 || r.Intn(3) == 0 {
		if r.Intn(4) == 0 {
			return oneOf(r, "id", "fail")
		}
		return oneOf(r, names...)
	}
	word := ""
	if r.Intn(5) > 0 {
		word = oneOf(r, bracketWords...) + oneOf(r, "", "", " ")
	}
	return word + "(" + somePlan(r, names, depth-1) + ")"
}

// sumRules are for trees of (Add a b), (F a), (F), N"0" and N"1": some make less of them, some more, and some go round.
func sumRules() []impl.RwRule {
	return []impl.RwRule{
		rule("zero", `(Add Var"x" N"0")`, `Var"x"`),
		rule("swap", `(Add Var"x" Var"y")`, `(Add Var"y" Var"x")`),
		rule("both", `(Add Var"x" Var"x")`, `(F Var"x")`),
		rule("drop", `(F Var"x")`, `Var"x"`),
		rule("split", `N"1"`, `(Add N"0" N"1")`),
		rule("less", `N"1"`, `N"0"`),
		rule("turn", `(Add (Add Var"x" Var"y") Var"z")`, `(Add Var"x" (Add Var"y" Var"z"))`),
		rule("twice", `(F Var"x")`, `(Add (F Var"x") Var"x")`),
	}
}

func namesOf(rules []impl.RwRule) []string {
	var names []string
	for _, rule := range rules {
		names = append(names, rule.Name)
	}
	return names
}

func someAdding(r *rand.Rand, depth int) impl.Tree {
	if depth == 1 || r.Intn(4) == 0 {
		return oneOf(r, leaf("N", "0"), leaf("N", "1"), leaf("N", "0"), leaf("N", "1"), node("F"))
	}
	if r.Intn(3) == 0 {
		return node("F", someAdding(r, depth-1))
	}
	return node("Add", someAdding(r, depth-1), someAdding(r, depth-1))
}
