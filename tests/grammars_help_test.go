package tests

import (
	"fmt"
	"math/rand"
	"regexp"
	"slices"
	"strings"
	"testing"

	"loop.example/g00037/impl"
)

// gItem is an item of a rule as a tree; its kind is one of the signs ' ( [ { or n for a name.
type gItem struct {
	kind byte
	s    string
	alts [][]*gItem
}

type gAlt struct {
	items []*gItem
	label string
}

type gRule struct {
	name string
	alts []gAlt
}

// model is a language that its text, its Grammar and its plain rules are made of, each by itself.
type model struct {
	name   string
	tokens []impl.Token
	levels []impl.Level
	rules  []gRule
}

var shutSign = map[byte]string{'(': ")", '[': "]", '{': "}"}

var partKind = map[byte]int{'n': 1, '\'': 2, '(': 3, '[': 4, '{': 5}

var levelWord = map[int]string{1: "left", 2: "right", 3: "none"}

func (i *gItem) isBracket() bool { return shutSign[i.kind] != "" }

// raw is the words of an item.
func (i *gItem) raw() []string {
	switch i.kind {
	case 'n':
		return []string{i.s}
	case '\'':
		return []string{"'" + i.s + "'"}
	}
	return slices.Concat([]string{string(i.kind)}, rawAlts(i.alts), []string{shutSign[i.kind]})
}

func rawAlts(alts [][]*gItem) []string {
	var words []string
	for n, items := range alts {
		if n > 0 {
			words = append(words, "|")
		}
		for _, item := range items {
			words = append(words, item.raw()...)
		}
	}
	return words
}

func (a gAlt) raw() []string {
	words := rawAlts([][]*gItem{a.items})
	if a.label != "" {
		words = append(words, "#", a.label)
	}
	return words
}

// decls are the words of the tokens, of the levels and of the rules.
func (m model) decls() (tokens, levels, rules [][]string) {
	for _, token := range m.tokens {
		word := "token"
		if token.Skip {
			word = "skip"
		}
		tokens = append(tokens, []string{word, token.Name, "~" + token.Rx + "~", ";"})
	}
	for _, level := range m.levels {
		words := []string{levelWord[level.Assoc]}
		for _, lit := range level.Lits {
			words = append(words, "'"+lit+"'")
		}
		levels = append(levels, append(words, ";"))
	}
	for _, rule := range m.rules {
		words := []string{rule.name, "="}
		for n, alt := range rule.alts {
			if n > 0 {
				words = append(words, "|")
			}
			words = append(words, alt.raw()...)
		}
		rules = append(rules, append(words, ";"))
	}
	return tokens, levels, rules
}

// words are those of a text of the language: what is declared is mixed, each kind in its own order.
func (m model) words(r *rand.Rand) []string {
	words := []string{"language", m.name, ";"}
	tokens, levels, rules := m.decls()
	kinds := [][][]string{tokens, levels, rules}
	for len(kinds[0])+len(kinds[1])+len(kinds[2]) > 0 {
		k := r.Intn(3)
		if len(kinds[k]) > 0 {
			words = append(words, kinds[k][0]...)
			kinds[k] = kinds[k][1:]
		}
	}
	return words
}

// shown is the text that GrammarShow is to write.
func (m model) shown() string {
	s := "language " + m.name + ";\n"
	tokens, levels, _ := m.decls()
	for _, words := range slices.Concat(tokens, levels) {
		s += strings.Join(words[:len(words)-1], " ") + ";\n"
	}
	for _, rule := range m.rules {
		words := []string{rule.name, "="}
		for n, alt := range rule.alts {
			if n > 0 {
				words = append(words, "|")
			}
			for _, item := range alt.items {
				words = append(words, item.shown())
			}
			if alt.label != "" {
				words = append(words, "#", alt.label)
			}
		}
		s += strings.Join(words, " ") + ";\n"
	}
	return s
}

func (i *gItem) shown() string {
	if !i.isBracket() {
		return i.raw()[0]
	}
	var words []string
	for n, items := range i.alts {
		if n > 0 {
			words = append(words, "|")
		}
		for _, item := range items {
			words = append(words, item.shown())
		}
	}
	return string(i.kind) + strings.Join(words, " ") + shutSign[i.kind]
}

// grammar is what GrammarRead is to read.
func (m model) grammar() impl.Grammar {
	g := impl.Grammar{Name: m.name, Tokens: slices.Clone(m.tokens)}
	for _, level := range m.levels {
		g.Levels = append(g.Levels, impl.Level{Assoc: level.Assoc, Lits: slices.Clone(level.Lits)})
	}
	var places func(items []*gItem) []int
	places = func(items []*gItem) []int {
		list := []int{}
		for _, item := range items {
			part := impl.Part{Kind: partKind[item.kind], S: item.s}
			for _, alt := range item.alts {
				part.Alts = append(part.Alts, places(alt))
			}
			g.Parts = append(g.Parts, part)
			list = append(list, len(g.Parts)-1)
		}
		return list
	}
	for _, rule := range m.rules {
		made := impl.GRule{Name: rule.name}
		for _, alt := range rule.alts {
			made.Alts = append(made.Alts, impl.GAlt{Items: places(alt.items), Label: alt.label})
		}
		g.Rules = append(g.Rules, made)
	}
	return g
}

func oneOf[E any](r *rand.Rand, list ...E) E { return list[r.Intn(len(list))] }

func someItems(r *rand.Rand, depth int, names []string, lits []string) []*gItem {
	var items []*gItem
	for n := r.Intn(4); n > 0; n-- {
		item := &gItem{kind: oneOf[byte](r, 'n', 'n', '\'', '\'', '(', '[', '{')}
		if depth == 0 && item.isBracket() {
			continue
		}
		switch item.kind {
		case 'n':
			item.s = oneOf(r, names...)
		case '\'':
			item.s = oneOf(r, lits...)
		default:
			for k := 1 + r.Intn(3); k > 0; k-- {
				item.alts = append(item.alts, someItems(r, depth-1, names, lits))
			}
		}
		items = append(items, item)
	}
	return items
}

// someModel has few names, so that they meet each other; with ok GrammarCheck has nothing to tell of it.
func someModel(r *rand.Rand, ok bool) model {
	m := model{name: oneOf(r, "a", "A", "Lit", someName(r), "left2", "Language")}
	names := []string{"A", "B", "C", "T", "U", "a_1", "Left", "token1"}
	rxs := []string{"a", "[0-9]+", " +", "x|\\n", "'", "%", "{}", ";"}
	lits := []string{"+", "-", "x", "#", "(", ";", "~", "%", "->", "|", "\"", "a1_", "token", "[]", "\\", "!!!!!!!!!!!!!!!!"}
	if !ok {
		names = append(names, "Lit", "Q")
		rxs = append(rxs, "", "a*", "(", "a|")
	} else {
		rxs = slices.DeleteFunc(rxs, func(rx string) bool { return rx == "{}" && r.Intn(2) == 0 })
	}
	r.Shuffle(len(names), func(i, j int) { names[i], names[j] = names[j], names[i] })
	next := func() string {
		if ok || r.Intn(6) > 0 {
			name := names[0]
			names = append(names[1:], name)
			return name
		}
		return oneOf(r, names...)
	}
	defined := []string{}
	for n := r.Intn(4); n > 0; n-- {
		token := impl.Token{Name: next(), Rx: oneOf(r, rxs...), Skip: r.Intn(3) == 0}
		m.tokens = append(m.tokens, token)
		if !token.Skip || !ok {
			defined = append(defined, token.Name)
		}
	}
	m.levels = someLevels(r, ok, slices.Clone(lits))
	for n := oneOf(r, 0, 1, 1, 2, 3, 4); n > 0 || ok && len(m.rules) == 0; n-- {
		m.rules = append(m.rules, gRule{name: next()})
		defined = append(defined, m.rules[len(m.rules)-1].name)
	}
	if !ok {
		defined = append(defined, oneOf(r, names...))
	}
	for i := range m.rules {
		for n := 1 + r.Intn(3); n > 0; n-- {
			m.rules[i].alts = append(m.rules[i].alts, gAlt{items: someItems(r, 3, defined, lits), label: oneOf(r, "", "", "L", "Lit", "A")})
		}
	}
	return m
}

func someLevels(r *rand.Rand, ok bool, lits []string) []impl.Level {
	var levels []impl.Level
	r.Shuffle(len(lits), func(i, j int) { lits[i], lits[j] = lits[j], lits[i] })
	for n := r.Intn(4); n > 0; n-- {
		level := impl.Level{Assoc: 1 + r.Intn(3)}
		for k := 1 + r.Intn(3); k > 0; k-- {
			level.Lits = append(level.Lits, lits[0])
			if ok || r.Intn(5) > 0 {
				lits = lits[1:]
			}
		}
		levels = append(levels, level)
	}
	return levels
}

// someModels are the same ones at each call.
func someModels(n int, ok bool) []model {
	r := rand.New(rand.NewSource(int64(n)))
	var models []model
	for len(models) < n {
		// Those that are large are left out, so that most have plain rules too.
		if m := someModel(r, ok); len(m.grammar().Parts) <= 60 {
			models = append(models, m)
		}
	}
	return models
}

var nameWord = regexp.MustCompile(`^[A-Za-z][A-Za-z0-9_]*$`)

// spacedWords puts blanks, line feeds and remarks between words, and a needed one between two names.
func spacedWords(r *rand.Rand, words []string) string {
	gap := func() string {
		return oneOf(r, "", "", " ", "\n", "  \n ", "%\n", " % 'x ~ ; %\n", "%\xff\xc3\x28\x00\t\r\u00e9\u2028\n\n")
	}
	s := gap()
	for i, word := range words {
		s += word
		between := gap()
		for between == "" && i+1 < len(words) && nameWord.MatchString(word) && nameWord.MatchString(words[i+1]) {
			between = gap()
		}
		s += between
	}
	return s + oneOf(r, "", "%", "% to the end")
}

func sameGrammar(a impl.Grammar, b impl.Grammar) bool {
	return a.Name == b.Name && slices.Equal(a.Tokens, b.Tokens) &&
		slices.EqualFunc(a.Levels, b.Levels, func(x, y impl.Level) bool { return x.Assoc == y.Assoc && slices.Equal(x.Lits, y.Lits) }) &&
		slices.EqualFunc(a.Rules, b.Rules, func(x, y impl.GRule) bool {
			return x.Name == y.Name && slices.EqualFunc(x.Alts, y.Alts, func(p, q impl.GAlt) bool { return p.Label == q.Label && slices.Equal(p.Items, q.Items) })
		}) &&
		slices.EqualFunc(a.Parts, b.Parts, func(x, y impl.Part) bool {
			return x.Kind == y.Kind && x.S == y.S && slices.EqualFunc(x.Alts, y.Alts, slices.Equal[[]int])
		})
}

func noGrammar(g impl.Grammar) bool { return sameGrammar(g, impl.Grammar{}) }

func sameBnf(a impl.Bnf, b impl.Bnf) bool {
	return slices.Equal(a.Terms, b.Terms) && slices.Equal(a.Nons, b.Nons) && a.Own == b.Own &&
		slices.EqualFunc(a.Prods, b.Prods, func(x, y impl.Prod) bool {
			return x.Left == y.Left && slices.Equal(x.Right, y.Right) && x.Label == y.Label && x.Level == y.Level && x.Assoc == y.Assoc
		})
}

func noBnf(b impl.Bnf) bool { return sameBnf(b, impl.Bnf{}) }

func mustRead(t *testing.T, text string) impl.Grammar {
	t.Helper()
	g, code, at := impl.GrammarRead(text)
	if code != impl.OK || at != 0 {
		t.Fatalf("GrammarRead(%q): %d %d", text, code, at)
	}
	return g
}

func mustLower(t *testing.T, g impl.Grammar) impl.Bnf {
	t.Helper()
	b, code := impl.Lower(g)
	if code != impl.OK {
		t.Fatalf("Lower(%v): %d", g, code)
	}
	return b
}

// noSource wants a text to be refused.
func noSource(t *testing.T, text string, wantCode int, wantAt int) {
	t.Helper()
	g, code, at := impl.GrammarRead(text)
	if code != wantCode || at != wantAt || !noGrammar(g) {
		t.Errorf("GrammarRead(%q): %v %d %d, not %d %d", text, g, code, at, wantCode, wantAt)
	}
}

// numbered joins n texts that form writes of the numbers from 0 on.
func numbered(n int, form string) string {
	s := ""
	for i := range n {
		s += fmt.Sprintf(form, i)
	}
	return s
}
