package tests

import (
	"math"
	"math/rand"
	"slices"
	"strconv"
	"strings"
	"testing"

	"loop.example/g00037/impl"
)

// sourceOf writes what a grammar says, be it one or not; where the grammar is one, that is a text of it.
func sourceOf(g impl.Grammar) string {
	var s strings.Builder
	s.WriteString("language " + g.Name + ";")
	for _, token := range g.Tokens {
		s.WriteString(map[bool]string{false: "token ", true: "skip "}[token.Skip] + token.Name + "~" + token.Rx + "~;")
	}
	for _, level := range g.Levels {
		s.WriteString(levelWord[level.Assoc])
		for _, lit := range level.Lits {
			s.WriteString("'" + lit + "'")
		}
		s.WriteString(";")
	}
	steps := 0
	var write func(alts [][]int)
	write = func(alts [][]int) {
		for n, items := range alts {
			s.WriteString(strings.Repeat("|", min(n, 1)))
			for _, item := range items {
				if steps++; steps > 2000 || item < 0 || item >= len(g.Parts) {
					continue
				}
				part := g.Parts[item]
				signs := []string{"", "", "", "()", "[]", "{}", ""}[max(0, min(part.Kind, 6))]
				switch {
				case part.Kind == impl.GpLit:
					s.WriteString("'" + part.S + "'")
				case signs != "":
					s.WriteString(part.S + signs[:1])
					write(part.Alts)
					s.WriteString(signs[1:])
				default:
					s.WriteString(" " + part.S + " ")
				}
			}
		}
	}
	for _, rule := range g.Rules {
		s.WriteString(rule.Name + "=")
		for n, alt := range rule.Alts {
			s.WriteString(strings.Repeat("|", min(n, 1)))
			write([][]int{alt.Items})
			if alt.Label != "" {
				s.WriteString("#" + alt.Label)
			}
		}
		s.WriteString(";")
	}
	return s.String()
}

// isGrammar tells whether a small grammar has a text.
func isGrammar(g impl.Grammar) bool {
	read, code, _ := impl.GrammarRead(sourceOf(g))
	return code == impl.OK && sameGrammar(read, g)
}

// badGrammar wants a grammar to be refused by all that ask for one.
func badGrammar(t *testing.T, g impl.Grammar) {
	t.Helper()
	if impl.GrammarOK(g) {
		t.Errorf("a grammar: %v", g)
	}
	if s, code := impl.GrammarShow(g); s != "" || code != impl.ErrBad {
		t.Errorf("GrammarShow(%v): %q %d", g, s, code)
	}
	if code, name := impl.GrammarCheck(g); code != impl.ErrBad || name != "" {
		t.Errorf("GrammarCheck(%v): %d %q", g, code, name)
	}
	unlowered(t, g)
}

// unlowered wants a grammar to have no plain rules and no lexer, for it is wrong.
func unlowered(t *testing.T, g impl.Grammar) {
	t.Helper()
	if b, code := impl.Lower(g); code != impl.ErrBad || !noBnf(b) {
		t.Errorf("Lower(%v): %v %d", g, b, code)
	}
	if rules, code := impl.LexRules(g); code != impl.ErrBad || len(rules) != 0 {
		t.Errorf("LexRules(%v): %v %d", g, rules, code)
	}
}

func copyGrammar(g impl.Grammar) impl.Grammar {
	g.Tokens, g.Levels, g.Rules, g.Parts = slices.Clone(g.Tokens), slices.Clone(g.Levels), slices.Clone(g.Rules), slices.Clone(g.Parts)
	for i := range g.Levels {
		g.Levels[i].Lits = slices.Clone(g.Levels[i].Lits)
	}
	for i := range g.Rules {
		g.Rules[i].Alts = slices.Clone(g.Rules[i].Alts)
		for k := range g.Rules[i].Alts {
			g.Rules[i].Alts[k].Items = slices.Clone(g.Rules[i].Alts[k].Items)
		}
	}
	for i := range g.Parts {
		g.Parts[i].Alts = slices.Clone(g.Parts[i].Alts)
		for k := range g.Parts[i].Alts {
			g.Parts[i].Alts[k] = slices.Clone(g.Parts[i].Alts[k])
		}
	}
	return g
}

// Promise 4.
func TestWhatAGrammarShowsIsRead(t *testing.T) {
	for _, m := range someModels(3000, false) {
		g := m.grammar()
		text, code := impl.GrammarShow(g)
		if code != impl.OK || text != m.shown() {
			t.Fatalf("%v: %d\n%s\n%s", g, code, text, m.shown())
		}
		if again := mustRead(t, text); !sameGrammar(again, g) {
			t.Fatalf("%q is read as %v", text, again)
		}
	}
}

func TestGrammarsByHandAreShown(t *testing.T) {
	for _, x := range [][2]string{
		{"language a;", "language a;\n"},
		{"language a;A=;", "language a;\nA =;\n"},
		{"language a;A=|;", "language a;\nA = |;\n"},
		{"language a;A=||B;", "language a;\nA = | | B;\n"},
		{"language a;A=#L|B#M|#N;", "language a;\nA = # L | B # M | # N;\n"},
		{"language a;A=()[]{};", "language a;\nA = () [] {};\n"},
		{"language a;A=(|)[|B|]{B||};", "language a;\nA = (|) [| B |] {B | |};\n"},
		{"language a;A=((B)[{C}D]);", "language a;\nA = ((B) [{C} D]);\n"},
		{"language a;A='('')'';''|';", "language a;\nA = '(' ')' ';' '|';\n"},
		{"language a;none'x';right'y''z';left'u';", "language a;\nnone 'x';\nright 'y' 'z';\nleft 'u';\n"},
		{"language a;B=;left';';skip W~ ;~;A=B;token T~~;", "language a;\nskip W ~ ;~;\ntoken T ~~;\nleft ';';\nB =;\nA = B;\n"},
	} {
		g := mustRead(t, x[0])
		if text, code := impl.GrammarShow(g); text != x[1] || code != impl.OK {
			t.Errorf("%q is shown as %q, %d", x[0], text, code)
		}
	}
}

// spoilt is a grammar with some things changed; it may still be one.
func spoilt(r *rand.Rand, g impl.Grammar) impl.Grammar {
	g = copyGrammar(g)
	texts := []string{"", "a", "left", "token", "Left", "a b", "x'", "'", "+", "~", "a~", "\x7f", "\u00e9", "1", "_a", strings.Repeat("n", 24), strings.Repeat("n", 25), strings.Repeat("+", 16), strings.Repeat("+", 17), strings.Repeat(" ", 100), strings.Repeat(" ", 101)}
	for n := 1 + r.Intn(2); n > 0; n-- {
		text := oneOf(r, texts...)
		switch r.Intn(8) {
		case 0:
			g.Name = text
		case 1:
			if i := r.Intn(len(g.Tokens) + 1); i < len(g.Tokens) {
				*oneOf(r, &g.Tokens[i].Name, &g.Tokens[i].Rx) = text
			}
		case 2:
			if i := r.Intn(len(g.Levels) + 1); i < len(g.Levels) {
				spoilLevel(r, &g.Levels[i], text)
			}
		case 3:
			if i := r.Intn(len(g.Rules) + 1); i < len(g.Rules) {
				spoilRule(r, &g.Rules[i], text)
			}
		case 4, 5:
			if i := r.Intn(len(g.Parts) + 1); i < len(g.Parts) {
				spoilPart(r, &g.Parts[i], text)
			}
		default:
			spoilOrder(r, &g)
		}
	}
	return g
}

func spoilLevel(r *rand.Rand, level *impl.Level, text string) {
	switch r.Intn(3) {
	case 0:
		level.Assoc = r.Intn(5)
	case 1:
		level.Lits = level.Lits[:r.Intn(len(level.Lits)+1)]
	default:
		level.Lits = append(level.Lits, text)
	}
}

func spoilRule(r *rand.Rand, rule *impl.GRule, text string) {
	switch k := r.Intn(len(rule.Alts) + 1); {
	case r.Intn(3) == 0:
		rule.Name = text
	case k < len(rule.Alts) && r.Intn(2) == 0:
		rule.Alts[k].Label = text
	default:
		rule.Alts = rule.Alts[:k]
	}
}

func spoilPart(r *rand.Rand, part *impl.Part, text string) {
	switch r.Intn(4) {
	case 0:
		part.Kind = r.Intn(7)
	case 1:
		part.S = text
	case 2:
		part.Alts = append(part.Alts, []int{})
	default:
		part.Alts = part.Alts[:r.Intn(len(part.Alts)+1)]
	}
}

// spoilOrder changes places in Parts, or what stands there.
func spoilOrder(r *rand.Rand, g *impl.Grammar) {
	lists := []*[]int{}
	for i := range g.Rules {
		for k := range g.Rules[i].Alts {
			lists = append(lists, &g.Rules[i].Alts[k].Items)
		}
	}
	for i := range g.Parts {
		for k := range g.Parts[i].Alts {
			lists = append(lists, &g.Parts[i].Alts[k])
		}
	}
	if len(lists) == 0 || len(g.Parts) == 0 {
		return
	}
	list, other := oneOf(r, lists...), oneOf(r, lists...)
	place := r.Intn(len(g.Parts)+2) - 1
	switch k := r.Intn(len(*list) + 1); {
	case k == len(*list):
		*list = append(*list, place)
	case r.Intn(4) == 0:
		(*list)[k] = place
	case r.Intn(3) == 0:
		*other = append(*other, (*list)[k])
		*list = slices.Delete(*list, k, k+1)
	case r.Intn(2) == 0:
		i, j := r.Intn(len(g.Parts)), r.Intn(len(g.Parts))
		g.Parts[i], g.Parts[j] = g.Parts[j], g.Parts[i]
	default:
		g.Parts = append(g.Parts, oneOf(r, g.Parts...))
	}
}

func TestGrammarsThatHaveATextAndOthers(t *testing.T) {
	r := rand.New(rand.NewSource(3))
	right := 0
	for _, m := range someModels(1500, false) {
		for range 8 {
			g := spoilt(r, m.grammar())
			if !isGrammar(g) {
				badGrammar(t, g)
				continue
			}
			right++
			text, code := impl.GrammarShow(g)
			if !impl.GrammarOK(g) || code != impl.OK || !sameGrammar(mustRead(t, text), g) {
				t.Errorf("no grammar: %v, %q %d", g, text, code)
			}
		}
	}
	if right < 1000 || right > 6000 {
		t.Errorf("%d are grammars", right)
	}
}

func TestNoGrammars(t *testing.T) {
	base := mustRead(t, "language a;token T~x~;left'+';A=T('+'|B[T])#L|{};B='x';")
	for name, spoil := range map[string]func(g *impl.Grammar){
		"no name":                 func(g *impl.Grammar) { g.Name = "" },
		"a word as name":          func(g *impl.Grammar) { g.Name = "language" },
		"a token's name":          func(g *impl.Grammar) { g.Tokens[0].Name = "skip" },
		"a token's empty name":    func(g *impl.Grammar) { g.Tokens[0].Name = "" },
		"a pattern's ~":           func(g *impl.Grammar) { g.Tokens[0].Rx = "~" },
		"a pattern's line feed":   func(g *impl.Grammar) { g.Tokens[0].Rx = "\n" },
		"a long pattern":          func(g *impl.Grammar) { g.Tokens[0].Rx = strings.Repeat("x", impl.MaxRx+1) },
		"no assoc":                func(g *impl.Grammar) { g.Levels[0].Assoc = 0 },
		"assoc 4":                 func(g *impl.Grammar) { g.Levels[0].Assoc = 4 },
		"a level without lits":    func(g *impl.Grammar) { g.Levels[0].Lits = nil },
		"an empty lit in levels":  func(g *impl.Grammar) { g.Levels[0].Lits = []string{"x", ""} },
		"a long lit in levels":    func(g *impl.Grammar) { g.Levels[0].Lits[0] = strings.Repeat("+", impl.MaxLit+1) },
		"a rule's name":           func(g *impl.Grammar) { g.Rules[1].Name = "none" },
		"a rule without alts":     func(g *impl.Grammar) { g.Rules = append(g.Rules, impl.GRule{Name: "C"}) },
		"a label":                 func(g *impl.Grammar) { g.Rules[0].Alts[0].Label = "right" },
		"a label that is no name": func(g *impl.Grammar) { g.Rules[0].Alts[0].Label = " " },
		"a place below":           func(g *impl.Grammar) { g.Rules[0].Alts[0].Items[0] = -1 },
		"a place above":           func(g *impl.Grammar) { g.Rules[1].Alts[0].Items[0] = len(g.Parts) },
		"a place far above":       func(g *impl.Grammar) { g.Rules[1].Alts[0].Items[0] = math.MaxInt },
		"a place far below":       func(g *impl.Grammar) { g.Parts[4].Alts[0][0] = math.MinInt },
		"a part twice":            func(g *impl.Grammar) { g.Rules[1].Alts[0].Items = []int{7, 7} },
		"a part that is left":     func(g *impl.Grammar) { g.Parts = append(g.Parts, impl.Part{Kind: impl.GpName, S: "A"}) },
		"no part that is used":    func(g *impl.Grammar) { g.Rules = g.Rules[:1] },
		"a part within itself":    func(g *impl.Grammar) { g.Parts[4].Alts = append(g.Parts[4].Alts, []int{4}) },
		"items the other way":     func(g *impl.Grammar) { slices.Reverse(g.Rules[0].Alts[0].Items) },
		"rules the other way":     func(g *impl.Grammar) { slices.Reverse(g.Rules) },
		"kind 0":                  func(g *impl.Grammar) { g.Parts[0].Kind = 0 },
		"kind 6":                  func(g *impl.Grammar) { g.Parts[0].Kind = 6 },
		"a name with alts":        func(g *impl.Grammar) { g.Parts[0].Alts = [][]int{{}} },
		"a lit with alts":         func(g *impl.Grammar) { g.Parts[7].Alts = [][]int{nil} },
		"brackets without alts":   func(g *impl.Grammar) { g.Parts[5].Alts = nil },
		"brackets with a text":    func(g *impl.Grammar) { g.Parts[5].S = "x" },
		"an item's empty name":    func(g *impl.Grammar) { g.Parts[0].S = "" },
		"a word as item":          func(g *impl.Grammar) { g.Parts[0].S = "token" },
		"an item's empty lit":     func(g *impl.Grammar) { g.Parts[7].S = "" },
		"a blank in a lit":        func(g *impl.Grammar) { g.Parts[7].S = "a b" },
		"a quote in a lit":        func(g *impl.Grammar) { g.Parts[7].S = "'" },
	} {
		g := copyGrammar(base)
		spoil(&g)
		if isGrammar(g) {
			t.Error(name)
		}
		badGrammar(t, g)
	}
	badGrammar(t, impl.Grammar{})
}

// TestGrammarsThatLeadBack would not end where a part is followed into itself.
func TestGrammarsThatLeadBack(t *testing.T) {
	var parts []impl.Part
	for i := range impl.MaxParts {
		next := (i + 1) % impl.MaxParts
		parts = append(parts, impl.Part{Kind: impl.GpGroup, Alts: [][]int{{next, next}, {next}}})
	}
	for _, items := range [][]int{{0}, {impl.MaxParts - 1}, {0, 0}} {
		badGrammar(t, impl.Grammar{Name: "a", Rules: []impl.GRule{{Name: "A", Alts: []impl.GAlt{{Items: items}}}}, Parts: parts})
	}
	for i := range parts {
		parts[i].Alts = [][]int{{i - 1, i - 1}, {i - 1}}
	}
	parts[0].Alts = [][]int{{}}
	badGrammar(t, impl.Grammar{Name: "a", Rules: []impl.GRule{{Name: "A", Alts: []impl.GAlt{{Items: []int{impl.MaxParts - 1}}}}}, Parts: parts})
	one := slices.Repeat([]int{0}, 100000)
	huge := impl.Part{Kind: impl.GpGroup, Alts: slices.Repeat([][]int{one}, 100000)}
	badGrammar(t, impl.Grammar{Name: "a", Rules: []impl.GRule{{Name: "A", Alts: []impl.GAlt{{Items: []int{1}}}}}, Parts: []impl.Part{{Kind: impl.GpName, S: "A"}, huge}})
}

func TestGrammarsUpToTheLimits(t *testing.T) {
	grow := map[string]func(g *impl.Grammar, n int){
		"tokens": func(g *impl.Grammar, n int) {
			for i := range impl.MaxTokens + n {
				g.Tokens = append(g.Tokens, impl.Token{Name: "T" + strconv.Itoa(i), Rx: "x"})
			}
		},
		"levels": func(g *impl.Grammar, n int) {
			g.Levels = slices.Repeat([]impl.Level{{Assoc: 1, Lits: []string{"x"}}}, impl.MaxLevels+n)
		},
		"rules": func(g *impl.Grammar, n int) {
			g.Rules = slices.Repeat([]impl.GRule{{Name: "A", Alts: []impl.GAlt{{}}}}, impl.MaxGRules+n)
		},
		"parts": func(g *impl.Grammar, n int) {
			g.Rules = []impl.GRule{{Name: "A", Alts: []impl.GAlt{{}}}}
			for i := range impl.MaxParts + n {
				g.Parts = append(g.Parts, impl.Part{Kind: impl.GpLit, S: "x"})
				g.Rules[0].Alts[0].Items = append(g.Rules[0].Alts[0].Items, i)
			}
		},
	}
	for name, more := range grow {
		g := impl.Grammar{Name: "a"}
		more(&g, 0)
		if text, code := impl.GrammarShow(g); !impl.GrammarOK(g) || code != impl.OK || !sameGrammar(mustRead(t, text), g) {
			t.Error(name, code)
		}
		g = impl.Grammar{Name: "a"}
		more(&g, 1)
		badGrammar(t, g)
	}
}

func TestLongestShownGrammar(t *testing.T) {
	for _, over := range []int{0, 1} {
		g := impl.Grammar{Name: "a", Levels: []impl.Level{{Assoc: impl.AsNone}}}
		// "language a;\n" and "none ;\n" have 18 bytes of their own, a LIT of one byte has 4 with its blank; the blank ahead of ; is none.
		rest := impl.MaxSource - len("language a;\nnone;\n") + over
		for ; rest > 20; rest -= 4 {
			g.Levels[0].Lits = append(g.Levels[0].Lits, "x")
		}
		g.Levels[0].Lits = append(g.Levels[0].Lits, strings.Repeat("x", rest-3))
		text, code := impl.GrammarShow(g)
		if !impl.GrammarOK(g) {
			t.Error(over)
		}
		if over == 0 && (code != impl.OK || len(text) != impl.MaxSource || !sameGrammar(mustRead(t, text), g)) {
			t.Error(len(text), code)
		}
		if over == 1 && (code != impl.ErrFull || text != "") {
			t.Error(len(text), code)
		}
	}
}

func TestGrammarsOfAnyLength(t *testing.T) {
	lits := slices.Repeat([]string{"x"}, 100000)
	empty := impl.Part{Kind: impl.GpRep, Alts: make([][]int, 100000)}
	g := impl.Grammar{Name: "a", Levels: []impl.Level{{Assoc: 1, Lits: lits}}, Parts: slices.Repeat([]impl.Part{empty}, impl.MaxParts)}
	rule := impl.GRule{Name: "A", Alts: make([]impl.GAlt, 100000)}
	for i := range g.Parts {
		rule.Alts[i].Items = []int{i}
	}
	g.Rules = []impl.GRule{rule}
	if text, code := impl.GrammarShow(g); !impl.GrammarOK(g) || code != impl.ErrFull || text != "" {
		t.Error(len(text), code)
	}
	if code, name := impl.GrammarCheck(g); code != impl.ErrTwice || name != "x" {
		t.Error(code, name)
	}
	g.Levels = nil
	if b, code := impl.Lower(g); code != impl.ErrFull || !noBnf(b) {
		t.Error(code)
	}
}
