package tests

import (
	"math/rand"
	"slices"
	"strconv"
	"strings"
	"testing"

	"loop.example/g00037/impl"
)

func TestPlans(t *testing.T) {
	rules := sumRules()
	for _, plan := range []string{
		"id", "fail", "zero", "(id)", "((zero))", "all(id)", "one(zero)", "try(fail)", "repeat(zero)", "down(id)", "up(zero)", "inner(zero)",
		"id;id", "id|id", "zero;swap;drop", "zero|swap|drop", "zero;swap|drop;id|fail", "(zero|swap);drop", "zero|(swap;drop)",
		"all(one(try(repeat(down(up(inner(id)))))))", "all(zero;swap|drop)", "try(zero)|try(swap)", "repeat((zero|swap);drop)",
		" id", "id ", "   id   ", " ( zero | swap ) ; id ", "all (id)", "all   (   id   )   ", "zero ;swap", "zero| swap", "( ( id ) )",
	} {
		wantPlan(t, "a plan", rules, plan)
		if code, at := planBy(namesOf(rules), plan); code != impl.OK || at != 0 {
			t.Errorf("the model says %d, %d of %q", code, at, plan)
		}
	}
}

func TestPlansThatAreNone(t *testing.T) {
	rules := sumRules()
	for _, x := range []struct {
		why, plan string
		at        int
	}{
		{"ends too early", "", 0}, {"ends too early", " ", 1}, {"ends too early", "     ", 5}, {"ends too early", "zero;", 5}, {"ends too early", "zero|", 5}, {"ends too early", "zero; ", 6}, {"ends too early", "(", 1}, {"ends too early", "(zero", 5}, {"ends too early", "(zero ", 6}, {"ends too early", "((zero)", 7}, {"ends too early", "(zero;", 6},
		{"ends too early", "all", 3}, {"ends too early", "all ", 4}, {"ends too early", "all(", 4}, {"ends too early", "all(id", 6}, {"ends too early", "inner", 5}, {"ends too early", "id;try", 6},
		{"a sign", "(", 1}, {"a sign", ")", 0}, {"a sign", ";", 0}, {"a sign", "|", 0}, {"a sign", "()", 1}, {"a sign", "all()", 4}, {"a sign", "( )", 2}, {"a sign", "id)", 2}, {"a sign", "id )", 3}, {"a sign", "(id))", 4}, {"a sign", "all(id))", 7},
		{"a sign", "id;;id", 3}, {"a sign", "id||id", 3}, {"a sign", "id;|id", 3}, {"a sign", "id|;id", 3}, {"a sign", ";id", 0}, {"a sign", "|id", 0}, {"a sign", "(;id)", 1}, {"a sign", "(id;)", 4}, {"a sign", "(id|)", 4}, {"a sign", "id;)", 3}, {"a sign", "id(id)", 2}, {"a sign", "zero(id)", 4}, {"a sign", "fail (id)", 5}, {"a sign", "(id)(id)", 4}, {"a sign", "(id) (id)", 5},
		{"a word", "zero swap", 5}, {"a word", "id id", 3}, {"a word", "(zero swap)", 6}, {"a word", "(id) id", 5}, {"a word", "(id)id", 4}, {"a word", "id all(id)", 3}, {"a word", "all(id)all(id)", 7},
		{"no bracket behind it", "all zero", 4}, {"no bracket behind it", "all;id", 3}, {"no bracket behind it", "all|id", 3}, {"no bracket behind it", "all)", 3}, {"no bracket behind it", "(all)", 4}, {"no bracket behind it", "all all(id)", 4}, {"no bracket behind it", "one id", 4}, {"no bracket behind it", "try  fail", 5}, {"no bracket behind it", "repeat ?", 7}, {"no bracket behind it", "down;", 4}, {"no bracket behind it", "up zero", 3}, {"no bracket behind it", "inner id", 6},
		{"no rule's", "none", 0}, {"no rule's", "zer", 0}, {"no rule's", "zeros", 0}, {"no rule's", "zero1", 0}, {"no rule's", "zero_", 0}, {"no rule's", "Zero", 0}, {"no rule's", "zeroswap", 0}, {"no rule's", "idid", 0}, {"no rule's", "allid", 0}, {"no rule's", "All(id)", 0}, {"no rule's", "alls(id)", 0}, {"no rule's", "ID", 0}, {"no rule's", "Var", 0}, {"no rule's", "id;none", 3}, {"no rule's", "id; none", 4}, {"no rule's", "all(none)", 4}, {"no rule's", "id|(none)", 4}, {"no rule's", "none(id)", 0}, {"no rule's", "none;none", 0}, {"no rule's", "al l(id)", 0}, {"no rule's", "re peat(id)", 0},
		{"no rule's, and too long for a name", "id;" + strings.Repeat("a", impl.MaxName+1), 3}, {"no rule's, and too long for a name", strings.Repeat("zero", 70), 0},
		{"begins none", "zero?", 4}, {"begins none", "?", 0}, {"begins none", "1", 0}, {"begins none", "1zero", 0}, {"begins none", "_zero", 0}, {"begins none", "zero 1", 5}, {"begins none", "zero;1zero", 5}, {"begins none", "zero,swap", 4}, {"begins none", "zero.", 4}, {"begins none", "[id]", 0}, {"begins none", "{id}", 0}, {"begins none", "all[id]", 3}, {"begins none", "all(id]", 6}, {"begins none", "zero & swap", 5}, {"begins none", "id%", 2}, {"begins none", "\"id\"", 0}, {"begins none", "'id'", 0}, {"begins none", "id;é", 3}, {"begins none", "zero\xff", 4}, {"begins none", "zeroé", 4}, {"begins none", "zero-1", 4},
		{"the first of several", "zero swap;none?", 5}, {"the first of several", "none zero?", 0}, {"the first of several", "(zero))none", 6}, {"the first of several", "all none", 4}, {"the first of several", "id none", 3},
	} {
		noPlan(t, x.why, rules, x.plan, impl.ErrText, x.at)
		if code, at := planBy(namesOf(rules), x.plan); code != impl.ErrText || at != x.at {
			t.Errorf("the model says %d, %d of %q", code, at, x.plan)
		}
	}
	// Without rules there are no names.
	noPlan(t, "no rules", nil, "zero", impl.ErrText, 0)
	wantPlan(t, "no rules", nil, "down(try(id|fail))")
	wantPlan(t, "no rules", []impl.RwRule{}, "id")
}

// Every byte there is, at each place of a plan, and in the place of each byte of it.
func TestPlansWithEachByte(t *testing.T) {
	rules := sumRules()
	for _, plan := range []string{"all(zero;id)|swap", " try ( zero ) ; id ", "id"} {
		for at := range len(plan) + 1 {
			for b := range 256 {
				wantPlanBy(t, rules, plan[:at]+string([]byte{byte(b)})+plan[at:])
				if at < len(plan) {
					wantPlanBy(t, rules, plan[:at]+string([]byte{byte(b)})+plan[at+1:])
				}
			}
		}
	}
}

func wantPlanBy(t *testing.T, rules []impl.RwRule, plan string) int {
	t.Helper()
	code, at := impl.PlanOK(rules, plan)
	if wantCode, wantAt := planBy(namesOf(rules), plan); code != wantCode || at != wantAt {
		t.Fatalf("PlanOK of %q is %d, %d and should be %d, %d", plan, code, at, wantCode, wantAt)
	}
	return code
}

// All rows of few words and signs.
func TestAllShortPlans(t *testing.T) {
	rules := sumRules()[:2]
	met := map[int]int{}
	for _, tokens := range lists([]string{"id", "zero", "all", "(", ")", ";", "|", "no", "?"}, 6) {
		met[wantPlanBy(t, rules, strings.Join(tokens, " "))]++
		if len(tokens) < 5 {
			met[wantPlanBy(t, rules, strings.Join(tokens, ""))]++
		}
	}
	if met[impl.OK] < 100 || met[impl.ErrText] < 10000 {
		t.Error("too few of a kind:", met)
	}
}

// Plans that are made as the document says, and those with a change or two.
func TestManyPlans(t *testing.T) {
	r := rand.New(rand.NewSource(113))
	rules := sumRules()
	met := map[int]int{}
	for range 4000 {
		plan := somePlan(r, namesOf(rules), 1+r.Intn(4))
		if len(plan) > impl.MaxPlan {
			continue
		}
		wantPlan(t, "made so", rules, plan)
		tokens, at := planTokens(plan)
		i := r.Intn(len(tokens))
		cut := plan[:at[i]] + plan[at[i]+len(tokens[i]):]
		more := plan[:at[i]] + oneOf(r, " id ", "(", ")", ";", "|", " all", "no ", " zero", ".") + plan[at[i]:]
		for _, changed := range []string{cut, more, plan[:at[i]], plan[at[i]:]} {
			if len(changed) <= impl.MaxPlan {
				met[wantPlanBy(t, rules, changed)]++
			}
		}
	}
	if met[impl.OK] < 200 || met[impl.ErrText] < 5000 {
		t.Error("too few of a kind:", met)
	}
}

// Blanks may stand between all words and signs, and ahead of the first and behind the last; nothing else may, and they may not stand in a word.
func TestBlanksInPlans(t *testing.T) {
	rules := sumRules()
	tokens := []string{"try", "(", "(", "zero", ";", "id", ")", "|", "swap", ")", ";", "one", "(", "fail", ")"}
	x := tree(`(Add N"1" N"0")`)
	want := answered(impl.Rewrite(rules, strings.Join(tokens, ""), x, 100))
	for i := range len(tokens) + 1 {
		ahead, behind := strings.Join(tokens[:i], ""), strings.Join(tokens[i:], "")
		for _, blanks := range []string{" ", "  ", strings.Repeat(" ", 100)} {
			plan := ahead + blanks + behind
			wantPlan(t, "blanks", rules, plan)
			if got := answered(impl.Rewrite(rules, plan, x, 100)); got != want {
				t.Errorf("%q: %s and should be %s", plan, got, want)
			}
		}
		for _, other := range []string{"\n", "\t", "\r", "\v", "\f", "\x00", "\x1f", "\x7f", "\x85", "\xa0", "\u00a0", "\u2003", "\ufeff", "%"} {
			noPlan(t, "no blank", rules, ahead+other+behind, impl.ErrText, len(ahead))
			noPlan(t, "blanks and no blank", rules, ahead+"  "+other+" "+behind, impl.ErrText, len(ahead)+2)
		}
	}
	for _, word := range append([]string{"id", "fail", "zero"}, bracketWords...) {
		for i := 1; i < len(word); i++ {
			plan := word[:i] + " " + word[i:] + "(id)"
			noPlan(t, "a blank in a word", rules, "id;"+plan, impl.ErrText, 3)
		}
	}
}

func TestAsManyRulesAsThereMayBe(t *testing.T) {
	var rules []impl.RwRule
	for i := range impl.MaxRw + 1 {
		rules = append(rules, rule("r"+strconv.Itoa(i), `N"`+strconv.Itoa(i)+`"`, `N"`+strconv.Itoa(i+1)+`"`))
	}
	most := rules[:impl.MaxRw]
	wantPlan(t, "as many as may be", most, "r0;r19")
	noPlan(t, "one that is not there", most, "r0;r20", impl.ErrText, 3)
	wantDone(t, most, "repeat("+strings.Join(namesOf(most), "|")+")", leaf("N", "0"), leaf("N", "20"), 4*21+21*20/2+20+1)
	noPlan(t, "one too many", rules, "r0", impl.ErrBad, 0)
	noPlan(t, "one too many, and no plan", rules, "?", impl.ErrBad, 0)
	noPlan(t, "far too many", slices.Repeat(most, 1000), "r0", impl.ErrBad, 0)
	noPlan(t, "far too many that are nothing", make([]impl.RwRule, 100000), "id", impl.ErrBad, 0)
}

func TestPlansAsLongAsTheyMayBe(t *testing.T) {
	rules := sumRules()
	deepest := strings.Repeat("(", impl.MaxPlan/2-1) + "id" + strings.Repeat(")", impl.MaxPlan/2-1)
	widest := "id" + strings.Repeat(";id", (impl.MaxPlan-2)/3) + " "
	for _, plan := range []string{deepest, widest, "id" + strings.Repeat(" ", impl.MaxPlan-2), strings.Repeat(" ", impl.MaxPlan-2) + "id"} {
		if len(plan) != impl.MaxPlan {
			t.Fatal(len(plan))
		}
		wantPlan(t, "as long as may be", rules, plan)
		noPlan(t, "one longer", rules, plan+" ", impl.ErrBad, 0)
		noPlan(t, "one longer", rules, " "+plan, impl.ErrBad, 0)
	}
	x := leaf("a", "")
	wantDone(t, rules, deepest, x, x, impl.MaxPlan/2)
	wantDone(t, rules, widest, x, x, 1+(impl.MaxPlan-2)/3)
	// A long text that is no plan: its place up to the limit, and 0 behind it.
	noPlan(t, "as long as may be", rules, strings.Repeat("(", impl.MaxPlan), impl.ErrText, impl.MaxPlan)
	noPlan(t, "as long as may be", rules, strings.Repeat(" ", impl.MaxPlan), impl.ErrText, impl.MaxPlan)
	noPlan(t, "one longer", rules, strings.Repeat("(", impl.MaxPlan+1), impl.ErrBad, 0)
	noPlan(t, "as long as may be", rules, strings.Repeat("a", impl.MaxPlan), impl.ErrText, 0)
	noPlan(t, "far too long", rules, strings.Repeat("id;", 100000), impl.ErrBad, 0)
	noPlan(t, "far too long", nil, strings.Repeat("\x00", 1000000), impl.ErrBad, 0)
}

// wrongRwRules are each wrong for one reason.
func wrongRwRules() map[string]impl.RwRule {
	wrong := map[string]impl.RwRule{
		"nothing at all":                      {},
		"no Name":                             rule("", `(F)`, `(F)`),
		"a digit first":                       rule("1r", `(F)`, `(F)`),
		"a _ first":                           rule("_r", `(F)`, `(F)`),
		"a blank in the Name":                 rule("r r", `(F)`, `(F)`),
		"a sign in the Name":                  rule("r;", `(F)`, `(F)`),
		"a byte of no name":                   rule("r\xc3\xa9", `(F)`, `(F)`),
		"a Name that is too long":             rule(strings.Repeat("r", impl.MaxName+1), `(F)`, `(F)`),
		"a Left that is a variable":           rule("r", `Var"x"`, `(F)`),
		"a Left that is a variable, the same": rule("r", `Var"x"`, `Var"x"`),
		"Right has a variable, Left none":     rule("r", `(F)`, `Var"x"`),
		"Right has another variable":          rule("r", `(F Var"x")`, `Var"y"`),
		"Right has one more":                  rule("r", `(F Var"x" Var"y")`, `(F Var"y" (G Var"x" (G Var"z")))`),
		"Right has a greater one":             rule("r", `(F Var"x")`, `(F Var"X")`),
		"Left has no leaf called so":          rule("r", `(F (Var) x"" Vars"x" (Var x""))`, `Var"x"`),
		"Left is not right":                   {Name: "r", Right: node("F")},
		"Right is not right":                  {Name: "r", Left: node("F")},
	}
	for _, word := range append([]string{"id", "fail"}, bracketWords...) {
		wrong["the Name "+word] = rule(word, `(F)`, `(F)`)
	}
	for _, p := range wrongPatterns() {
		wrong["a Left that is no pattern, "+written(p)] = impl.RwRule{Name: "r", Left: p, Right: node("F")}
		wrong["a Right that is no pattern, "+written(p)] = impl.RwRule{Name: "r", Left: node("F", variable("x")), Right: p}
	}
	for why, x := range wrongTrees() {
		wrong["a Left with "+why] = impl.RwRule{Name: "r", Left: x, Right: node("F")}
		wrong["a Right with "+why] = impl.RwRule{Name: "r", Left: node("F"), Right: x}
	}
	return wrong
}

func TestRulesThatAreWrong(t *testing.T) {
	right := sumRules()[:2]
	for why, wrong := range wrongRwRules() {
		for i := range len(right) + 1 {
			rules := slices.Insert(slices.Clone(right), i, wrong)
			noPlan(t, why, rules, "id", impl.ErrBad, 0)
			noPlan(t, why+", and no plan", rules, "?", impl.ErrBad, 0)
		}
		noPlan(t, why+", alone", []impl.RwRule{wrong}, "id", impl.ErrBad, 0)
		noPlan(t, why+", asked for", []impl.RwRule{wrong}, wrong.Name, impl.ErrBad, 0)
		noPlan(t, why+", and a long plan", []impl.RwRule{wrong}, strings.Repeat(" ", impl.MaxPlan+1), impl.ErrBad, 0)
	}
	for _, twice := range [][]impl.RwRule{
		{right[0], right[0]}, {right[0], right[1], right[0]}, {right[1], right[0], right[0]},
		{right[0], rule("zero", `(F)`, `N"1"`)}, {right[0], right[1], rule("swap", `(F)`, `N"1"`)},
	} {
		noPlan(t, "two with one Name", twice, "id", impl.ErrBad, 0)
		noPlan(t, "two with one Name", twice, "zero swap", impl.ErrBad, 0)
	}
	var many []impl.RwRule
	for i := range impl.MaxRw {
		many = append(many, rule("r"+strconv.Itoa(i%(impl.MaxRw-1)), `(F)`, `(F)`))
	}
	noPlan(t, "the last is the first", many, "id", impl.ErrBad, 0)
}

// Names that are nearly words, and patterns that are nearly variables.
func TestRulesThatAreRight(t *testing.T) {
	for _, name := range []string{"r", "R", "a1", "a_", "ids", "Id", "ID", "i", "fai", "fails", "alls", "All", "one1", "try_", "repeats", "downs", "UP", "u", "inner2", "plan", "prim", "word", "Var", strings.Repeat("r", impl.MaxName)} {
		rules := []impl.RwRule{rule(name, `N"1"`, `N"2"`)}
		wantPlan(t, "a Name", rules, name)
		wantDone(t, rules, name, leaf("N", "1"), leaf("N", "2"), 1)
		wantDone(t, rules, "try("+name+" ; id)", leaf("N", "1"), leaf("N", "2"), 4)
	}
	for _, x := range []struct{ left, right, from, to string }{
		{`(Var)`, `(F)`, `(Var)`, `(F)`},
		{`(Var Var"x")`, `Var"x"`, `(Var N"1")`, `N"1"`},
		{`Var1"x"`, `(F)`, `Var1"x"`, `(F)`},
		{`(F Var"x" Var"y")`, `(G)`, `(F N"1" N"2")`, `(G)`},
		{`(F Var"x" Var"y")`, `(G Var"y" Var"y")`, `(F N"1" N"2")`, `(G N"2" N"2")`},
		{`(F Var"x" Var"x")`, `Var"x"`, `(F N"1" N"1")`, `N"1"`},
		{`(F (F (F Var"low")))`, `(Var (Var) Var"low")`, `(F (F (F N"1")))`, `(Var (Var) N"1")`},
		{`x""`, `x""`, `x""`, `x""`},
	} {
		rules := []impl.RwRule{rule("r", x.left, x.right)}
		wantPlan(t, "a rule", rules, "r")
		wantDone(t, rules, "r", tree(x.from), tree(x.to), 1)
	}
	large := []impl.RwRule{{Name: "a", Left: wide(impl.MaxNodes), Right: deep(impl.MaxDepth)}, {Name: "b", Left: deep(impl.MaxDepth), Right: wide(impl.MaxNodes)}}
	wantDone(t, large, "a;b;a", wide(impl.MaxNodes), deep(impl.MaxDepth), 3)
	wantDone(t, large, "b", deep(impl.MaxDepth), wide(impl.MaxNodes), 1)
}
