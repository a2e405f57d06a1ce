package tests

import (
	"fmt"
	"slices"
	"strings"
	"testing"

	"loop.example/g00037/impl"
)

func TestSemsThatAreRight(t *testing.T) {
	whole := counting()
	wantSem(t, "nothing at all", impl.Sem{})
	wantSem(t, "one of all", whole)
	for why, spoil := range map[string]func(s *impl.Sem){
		"no Rules":    func(s *impl.Sem) { s.Rules = nil },
		"no Values":   func(s *impl.Sem) { s.Values = nil },
		"no Contexts": func(s *impl.Sem) { s.Contexts = []impl.Tree{} },
		"no Shapes":   func(s *impl.Sem) { s.Shapes = []impl.Shape{} },
	} {
		s := whole
		spoil(&s)
		wantSem(t, why, s)
	}
	wantSem(t, "Rules alone", impl.Sem{Rules: whole.Rules})
	wantSem(t, "Values alone", impl.Sem{Values: whole.Values})
	wantSem(t, "Contexts alone", impl.Sem{Contexts: whole.Contexts})
	wantSem(t, "Shapes alone", impl.Sem{Shapes: whole.Shapes})
}

// numberedSem has so many of each: they may be alike but for the Rules' Names.
func numberedSem(rules int, values int, contexts int, shapes int) impl.Sem {
	s := impl.Sem{
		Values:   slices.Repeat(treesOf(`(F Val"x")`), values),
		Contexts: slices.Repeat(treesOf(`(G Hole"")`), contexts),
		Shapes:   slices.Repeat([]impl.Shape{nodeShape("F", 1)}, shapes),
	}
	for i := range rules {
		s.Rules = append(s.Rules, rule(fmt.Sprint("r", i), `(F a"")`, `b""`))
	}
	return s
}

func TestHowManyASemMayHave(t *testing.T) {
	wantSem(t, "as many as there may be", numberedSem(impl.MaxRw, impl.MaxRw, impl.MaxRw, impl.MaxShapes))
	noSem(t, "a Rule too many", numberedSem(impl.MaxRw+1, impl.MaxRw, impl.MaxRw, impl.MaxShapes))
	noSem(t, "a Value too many", numberedSem(impl.MaxRw, impl.MaxRw+1, impl.MaxRw, impl.MaxShapes))
	noSem(t, "a Context too many", numberedSem(impl.MaxRw, impl.MaxRw, impl.MaxRw+1, impl.MaxShapes))
	noSem(t, "a Shape too many", numberedSem(impl.MaxRw, impl.MaxRw, impl.MaxRw, impl.MaxShapes+1))
	noSem(t, "a Rule too many, alone", numberedSem(impl.MaxRw+1, 0, 0, 0))
	noSem(t, "a Value too many, alone", numberedSem(0, impl.MaxRw+1, 0, 0))
	noSem(t, "a Context too many, alone", numberedSem(0, 0, impl.MaxRw+1, 0))
	noSem(t, "a Shape too many, alone", numberedSem(0, 0, 0, impl.MaxShapes+1))
	noSem(t, "very many", numberedSem(1000, 1000, 1000, 1000))
}

func TestRulesOfASem(t *testing.T) {
	one := func(left string, right string) impl.Sem {
		return impl.Sem{Rules: []impl.RwRule{rule("r", left, right)}}
	}
	for _, x := range [][2]string{
		{`a""`, `b""`}, {`(F)`, `(F)`}, {`(F Var"x")`, `Var"x"`}, {`(F Val"x")`, `Val"x"`}, {`(F Val"x")`, `Var"x"`}, {`(F Var"x")`, `Val"x"`},
		{`(F Var"x" Val"x")`, `(G Val"x" Var"x")`}, {`(F Var"x" Val"y" Val"z")`, `(G (G Var"z" Var"z"))`}, {`(F Val"x")`, `a""`},
		{`(Var Var"x")`, `(Val Var"x")`}, {`(Val)`, `(Var)`}, {`(Hole Var"x")`, `(Hole)`}, {`Other""`, `Holes""`}, {`var""`, `hole""`},
	} {
		wantSem(t, x[0]+" -> "+x[1], one(x[0], x[1]))
	}
	for why, x := range map[string][2]string{
		"Left is a Var":                    {`Var"x"`, `a""`},
		"Left is a Val":                    {`Val"x"`, `a""`},
		"Left is a Var, Right too":         {`Var"x"`, `Var"x"`},
		"a Var not in Left":                {`(F Var"x")`, `Var"y"`},
		"a Val not in Left":                {`(F Val"x")`, `Val"y"`},
		"one of Right not in Left":         {`(F Val"x" Var"y")`, `(G Var"x" (G Val"z"))`},
		"a Var, with no variables in Left": {`(F)`, `Var"x"`},
		"a Val, with no variables in Left": {`(F)`, `Val"x"`},
		"a Hole in Left":                   {`(F Hole"")`, `a""`},
		"a Hole in Right":                  {`(F)`, `(G a"" Hole"")`},
		"a Hole in both":                   {`(F Hole"")`, `Hole""`},
		"Left is a Hole":                   {`Hole""`, `a""`},
		"Right is a Hole":                  {`a""`, `Hole""`},
		"a Hole with a Text in Left":       {`(F Hole"x")`, `a""`},
		"a Hole with a Text in Right":      {`(F)`, `Hole"x"`},
		"a Var without a name":             {`(F Var"")`, `a""`},
		"a Val without a name":             {`(F Val"")`, `a""`},
		"a Var with no name":               {`(F Var"1")`, `Var"1"`},
		"a Val with no name":               {`(F Val"x y")`, `Val"x y"`},
		"a name that is too long":          {`(F Val"aaaaaaaaaaaaaaaaaaaaaaaaa")`, `a""`},
		"a Val with no name in Right":      {`(F Val"x")`, `Val"_"`},
	} {
		noSem(t, why, one(x[0], x[1]))
	}
	wantSem(t, "the longest name of a variable", one(`(F Val"aaaaaaaaaaaaaaaaaaaaaaaa")`, `Var"aaaaaaaaaaaaaaaaaaaaaaaa"`))
}

func TestRuleNamesOfASem(t *testing.T) {
	named := func(names ...string) impl.Sem {
		var s impl.Sem
		for _, name := range names {
			s.Rules = append(s.Rules, rule(name, `a""`, `b""`))
		}
		return s
	}
	for _, name := range []string{"a", "A_9", "Ids", "Var", "Hole", strings.Repeat("n", impl.MaxName)} {
		wantSem(t, name, named(name))
	}
	for _, name := range []string{"", "9", "_a", "a b", strings.Repeat("n", impl.MaxName+1), "id", "fail", "all", "one", "try", "repeat", "down", "up", "inner"} {
		noSem(t, "the Name "+name, named(name))
		noSem(t, "the Name "+name+" behind others", named("x", "y", name))
	}
	wantSem(t, "two Names", named("a", "A"))
	noSem(t, "one Name twice", named("a", "a"))
	noSem(t, "one Name twice, not side by side", named("a", "b", "c", "a"))
}

func TestValuesOfASem(t *testing.T) {
	for _, text := range []string{`a""`, `(F)`, `(F Var"x")`, `(F Val"x")`, `(F Var"x" Val"x" Var"y")`, `(Val Val"x")`, `(Var)`, `(F (Hole))`, `Vals"x"`} {
		wantSem(t, text, impl.Sem{Values: treesOf(text)})
	}
	for _, text := range []string{`Var"x"`, `Val"x"`, `Var""`, `(F Var"")`, `(F Val"1")`, `(F a"" (G Val"x-y"))`, `Hole""`, `Hole"x"`, `(F Hole"")`, `(F (F Hole"") a"")`, `(F Hole"x")`} {
		noSem(t, text, impl.Sem{Values: treesOf(text)})
		noSem(t, text+" behind another", impl.Sem{Values: treesOf(`(F)`, text)})
		noSem(t, text+" ahead of another", impl.Sem{Values: treesOf(text, `(F)`)})
	}
}

func TestContextsOfASem(t *testing.T) {
	for _, text := range []string{`(F Hole"")`, `(F Var"x" Hole"" Val"y")`, `(F Var"x" Hole"" Val"x")`, `(F (F (F a"" Hole"")))`, `(Hole Hole"")`, `(F (Hole) Hole"")`} {
		wantSem(t, text, impl.Sem{Contexts: treesOf(text)})
	}
	for _, text := range []string{`(F)`, `a""`, `Var"x"`, `Val"x"`, `(F Var"x")`, `(F (Hole))`, `Hole""`, `(F Hole"" Hole"")`, `(F Hole"" (F a"" Hole""))`, `(F Hole"x")`, `Hole"x"`, `(F Hole"" Hole"x")`, `(F Hole"x" Hole"")`, `(F Hole"\000")`, `(F Hole"" Var"")`, `(F Hole"" Val"1")`} {
		noSem(t, text, impl.Sem{Contexts: treesOf(text)})
		noSem(t, text+" behind another", impl.Sem{Contexts: treesOf(`(F Hole"")`, text)})
		noSem(t, text+" ahead of another", impl.Sem{Contexts: treesOf(text, `(F Hole"")`)})
	}
	// The Hole of one is not one of the next.
	wantSem(t, "several", impl.Sem{Contexts: treesOf(`(F Hole"")`, `(G Hole"")`, `(F Hole"")`)})
}

func TestShapesOfASem(t *testing.T) {
	long := strings.Repeat("n", impl.MaxName)
	text := strings.Repeat("\xff", impl.MaxLeaf)
	for why, shape := range map[string]impl.Shape{
		"a leaf":               leafShape("a"),
		"a leaf with a Text":   {Name: "a", Text: "x\"\n", Leaf: true},
		"the longest Text":     {Name: "a", Text: text, Leaf: true},
		"the longest Name":     leafShape(long),
		"a node without Kids":  nodeShape("F", 0),
		"a node with one":      nodeShape("F", 1),
		"a node with three":    nodeShape(long, 3),
		"a leaf Var":           {Name: "Var", Text: "", Leaf: true},
		"a leaf Hole":          leafShape("Hole"),
		"a node Val with Kids": nodeShape("Val", 2),
	} {
		wantSem(t, why, impl.Sem{Shapes: []impl.Shape{shape}})
	}
	for why, shape := range map[string]impl.Shape{
		"nothing":                    {},
		"a leaf without a Name":      leafShape(""),
		"a node without a Name":      nodeShape("", 1),
		"a Name that is none":        leafShape("1a"),
		"a node's Name that is none": nodeShape("a-b", 0),
		"a Name that is too long":    nodeShape(long+"n", 1),
		"a Text that is too long":    {Name: "a", Text: text + "x", Leaf: true},
		"a leaf with a Kid":          {Name: "a", Leaf: true, Kids: 1},
		"a leaf with -1 Kids":        {Name: "a", Leaf: true, Kids: -1},
		"a node with a Text":         {Name: "F", Text: "x", Kids: 1},
		"a Text, and no Kids":        {Name: "F", Text: "x"},
		"a node with -1 Kids":        nodeShape("F", -1),
		"a node with four Kids":      nodeShape("F", 4),
		"a node with very many":      nodeShape("F", 1<<62),
		"a node with very few":       nodeShape("F", -1<<63),
	} {
		noSem(t, why, impl.Sem{Shapes: []impl.Shape{shape}})
		noSem(t, why+", behind another", impl.Sem{Shapes: []impl.Shape{leafShape("a"), shape}})
		noSem(t, why+", ahead of another", impl.Sem{Shapes: []impl.Shape{shape, leafShape("a")}})
	}
	wantSem(t, "Shapes that are alike", impl.Sem{Shapes: []impl.Shape{leafShape("a"), leafShape("a"), nodeShape("a", 1), nodeShape("a", 1)}})
}

func TestSemsWithWrongTrees(t *testing.T) {
	a := leaf("a", "")
	for why, x := range wrongTrees() {
		noSem(t, why+" as a Left", impl.Sem{Rules: []impl.RwRule{{Name: "r", Left: x, Right: a}}})
		noSem(t, why+" as a Right", impl.Sem{Rules: []impl.RwRule{{Name: "r", Left: a, Right: x}}})
		noSem(t, why+" as a Value", impl.Sem{Values: []impl.Tree{a, x}})
		noSem(t, why+" as a Context", impl.Sem{Contexts: []impl.Tree{x}})
		noSem(t, why+" in a Context", impl.Sem{Contexts: []impl.Tree{node("F", leaf("Hole", ""), x)}})
	}
	for _, x := range []impl.Tree{wide(impl.MaxNodes), deep(impl.MaxDepth)} {
		wantSem(t, "large trees", impl.Sem{Rules: []impl.RwRule{{Name: "r", Left: x, Right: x}}, Values: []impl.Tree{x}})
	}
	hole := deepWith(leaf("Hole", ""), false)
	wantSem(t, "a Hole as deep as can be", impl.Sem{Contexts: []impl.Tree{hole}})
	noSem(t, "one deeper", impl.Sem{Contexts: []impl.Tree{node("F", hole)}})
}

func TestSemFunctionsWithWrongTrees(t *testing.T) {
	for why, x := range wrongTrees() {
		for _, s := range []impl.Sem{counting(), {}, numberedSem(impl.MaxRw+1, 0, 0, 0)} {
			allBad(t, why, s, x)
		}
	}
	for _, x := range []impl.Tree{wide(impl.MaxNodes), deep(impl.MaxDepth), leaf("a", strings.Repeat("x", impl.MaxLeaf)), leaf("Var", ""), leaf("Hole", "x")} {
		if list, code := impl.Redexes(counting(), x); len(list) > 0 || code != impl.OK {
			t.Errorf("Redexes of %.100s: %v, %d", written(x), list, code)
		}
		if less, kind, code := impl.Less(impl.Sem{}, x); !impl.TreeOK(less) || kind != impl.WtStuck || code != impl.OK {
			t.Errorf("Less of %.100s: %d, %d", written(x), kind, code)
		}
	}
}
