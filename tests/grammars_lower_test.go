package tests

import (
	"math/rand"
	"slices"
	"strconv"
	"strings"
	"testing"

	"loop.example/g00037/impl"
)

// lowered is what Lower is to make of a model; its maker knows the trees of items alone.
type lowered struct {
	made     impl.Bnf
	symbol   map[string]int
	brackets map[*gItem]int
}

func lowerOf(m model) impl.Bnf {
	low := lowered{symbol: map[string]int{}, brackets: map[*gItem]int{}}
	for _, token := range m.tokens {
		if !token.Skip {
			low.term(token.Name, m)
		}
	}
	m.eachItem(func(rule string, item *gItem) {
		if item.kind == '\'' {
			low.term("'"+item.s+"'", m)
		}
	})
	terms := len(low.made.Terms)
	for i, rule := range m.rules {
		low.symbol[rule.name] = terms + i
		low.made.Nons = append(low.made.Nons, rule.name)
	}
	low.made.Own = len(m.rules)
	inRule := map[string]int{}
	var order []*gItem
	m.eachItem(func(rule string, item *gItem) {
		if item.isBracket() {
			inRule[rule]++
			low.brackets[item] = terms + len(low.made.Nons)
			low.made.Nons = append(low.made.Nons, rule+":"+strconv.Itoa(inRule[rule]))
			order = append(order, item)
		}
	})
	for i, rule := range m.rules {
		for _, alt := range rule.alts {
			low.prod(terms+i, alt.label, nil, alt.items)
		}
	}
	for _, item := range order {
		own := low.brackets[item]
		var ahead []int
		if item.kind != '(' {
			low.prod(own, "", nil, nil)
		}
		if item.kind == '{' {
			ahead = []int{own}
		}
		for _, alt := range item.alts {
			low.prod(own, "", ahead, alt)
		}
	}
	return low.made
}

// eachItem tells the items in the order in which they end.
func (m model) eachItem(tell func(rule string, item *gItem)) {
	var through func(rule string, items []*gItem)
	through = func(rule string, items []*gItem) {
		for _, item := range items {
			for _, alt := range item.alts {
				through(rule, alt)
			}
			tell(rule, item)
		}
	}
	for _, rule := range m.rules {
		for _, alt := range rule.alts {
			through(rule.name, alt.items)
		}
	}
}

func (l *lowered) term(name string, m model) {
	if _, known := l.symbol[name]; known {
		return
	}
	term := impl.Term{Name: name}
	for k, level := range m.levels {
		for _, lit := range level.Lits {
			if "'"+lit+"'" == name {
				term.Level, term.Assoc = k+1, level.Assoc
			}
		}
	}
	l.symbol[name] = len(l.made.Terms)
	l.made.Terms = append(l.made.Terms, term)
}

func (l *lowered) prod(left int, label string, ahead []int, items []*gItem) {
	p := impl.Prod{Left: left, Label: label, Right: slices.Clone(ahead)}
	for _, item := range items {
		symbol, bracket := l.brackets[item]
		if !bracket {
			symbol = l.symbol[item.raw()[0]]
		}
		p.Right = append(p.Right, symbol)
	}
	for _, symbol := range p.Right {
		if symbol < len(l.made.Terms) && l.made.Terms[symbol].Level != 0 {
			p.Level, p.Assoc = l.made.Terms[symbol].Level, l.made.Terms[symbol].Assoc
		}
	}
	l.made.Prods = append(l.made.Prods, p)
}

func isTooLarge(b impl.Bnf) bool {
	return len(b.Prods) > 120 || slices.ContainsFunc(b.Prods, func(p impl.Prod) bool { return len(p.Right) > 12 })
}

func TestPlainRules(t *testing.T) {
	lowered := 0
	for _, m := range someModels(3000, true) {
		want := lowerOf(m)
		b, code := impl.Lower(m.grammar())
		if isTooLarge(want) {
			if code != impl.ErrFull || !noBnf(b) {
				t.Fatalf("%s: %v %d", m.shown(), b, code)
			}
			continue
		}
		lowered++
		if code != impl.OK || !sameBnf(b, want) {
			t.Fatalf("%s: %d\n%v\n%v", m.shown(), code, b, want)
		}
	}
	if lowered < 2500 {
		t.Error(lowered)
	}
}

// grouped is items with ( ) and an empty one ahead in place of each [ ].
func grouped(items []*gItem) []*gItem {
	var changed []*gItem
	for _, item := range items {
		twin := &gItem{kind: item.kind, s: item.s}
		if item.kind == '[' {
			twin.kind = '('
			twin.alts = append(twin.alts, nil)
		}
		for _, alt := range item.alts {
			twin.alts = append(twin.alts, grouped(alt))
		}
		changed = append(changed, twin)
	}
	return changed
}

func (m model) grouped() model {
	rules := slices.Clone(m.rules)
	for i := range rules {
		rules[i].alts = slices.Clone(rules[i].alts)
		for k := range rules[i].alts {
			rules[i].alts[k].items = grouped(rules[i].alts[k].items)
		}
	}
	m.rules = rules
	return m
}

// sameLowered wants two grammars to have the same plain rules, or both none; the first has [ ], the other ( ).
func sameLowered(t *testing.T, one impl.Grammar, other impl.Grammar) {
	t.Helper()
	b, code := impl.Lower(one)
	c, codeToo := impl.Lower(other)
	if code != codeToo || !sameBnf(b, c) || code == impl.OK && len(b.Prods) == 0 {
		t.Errorf("%v\n%v: %d\n%v\n%v: %d", one, b, code, other, c, codeToo)
	}
}

// Promise 5.
func TestWhatMayBeLeftOutIsAnEmptyOneAhead(t *testing.T) {
	changed := 0
	for _, m := range someModels(3000, true) {
		twin := m.grouped()
		if m.shown() != twin.shown() {
			changed++
		}
		sameLowered(t, m.grammar(), twin.grammar())
		sameLowered(t, mustRead(t, m.shown()), mustRead(t, twin.shown()))
	}
	if changed < 1000 {
		t.Error(changed)
	}
	for _, text := range []string{
		"A=[];", "A=[|];", "A=['x'];", "A=['x'|'y'];", "A=[['x']'y'|[[]]];", "A=['x'['y']{'z'['x']}]A['x']#L|['y']#M;B=['x'];",
		"left'x';right'y';A=['y'|'x']'x'['y'];", "token T~x~;A=[T]{[T]}([T]);",
		"A=" + strings.Repeat("['x']", impl.MaxRight) + ";", "A=" + strings.Repeat("['x']", impl.MaxRight+1) + ";",
		"A=[" + strings.Repeat("|", impl.MaxProds-3) + "];", "A=[" + strings.Repeat("|", impl.MaxProds-2) + "];",
	} {
		one := mustRead(t, "language a;"+text)
		other := mustRead(t, "language a;"+strings.NewReplacer("[", "(|", "]", ")").Replace(text))
		sameLowered(t, one, other)
		b, code := impl.Lower(one)
		if full := strings.Count(text, "|") == impl.MaxProds-2 || strings.Count(text, "[") > impl.MaxRight; full != (code == impl.ErrFull) {
			t.Errorf("%s: %v %d", text, b, code)
		}
	}
}

func TestPlainRulesByHand(t *testing.T) {
	b := mustLower(t, mustRead(t, "language a;B=[A]{'y'|B T}#L;left'-';A='x'('-'[T]|)'+';token T~x~;none'q''+';skip S~ ~;"))
	want := impl.Bnf{
		Terms: []impl.Term{{Name: "T"}, {Name: "'y'"}, {Name: "'x'"}, {Name: "'-'", Level: 1, Assoc: impl.AsLeft}, {Name: "'+'", Level: 2, Assoc: impl.AsNone}},
		Nons:  []string{"B", "A", "B:1", "B:2", "A:1", "A:2"},
		Own:   2,
		Prods: []impl.Prod{
			{Left: 5, Right: []int{7, 8}, Label: "L"},
			{Left: 6, Right: []int{2, 10, 4}, Level: 2, Assoc: impl.AsNone},
			{Left: 7},
			{Left: 7, Right: []int{6}},
			{Left: 8},
			{Left: 8, Right: []int{8, 1}},
			{Left: 8, Right: []int{8, 5, 0}},
			{Left: 9},
			{Left: 9, Right: []int{0}},
			{Left: 10, Right: []int{3, 9}, Level: 1, Assoc: impl.AsLeft},
			{Left: 10},
		},
	}
	if !sameBnf(b, want) {
		t.Errorf("%v\n%v", b, want)
	}
	// The last term with a Level counts, not the highest, and not one that stands within brackets.
	b = mustLower(t, mustRead(t, "language a;left'a';right'b';A='b''a''c'('b')|'c'|A('a');"))
	if p := b.Prods; p[0].Level != 1 || p[0].Assoc != impl.AsLeft || p[1].Level != 0 || p[1].Assoc != 0 || p[2].Level != 0 || p[2].Assoc != 0 {
		t.Error(p)
	}
	if b = mustLower(t, mustRead(t, "language a;none'x';token T~x~;Z=;")); len(b.Terms) != 1 || !slices.Equal(b.Nons, []string{"Z"}) || len(b.Prods) != 1 {
		t.Error(b)
	}
}

// wordSet is words of at most shortWord terms, as their names with a blank behind each.
type wordSet map[string]int

const shortWord = 3

func (s wordSet) then(next wordSet) wordSet {
	both := wordSet{}
	for a := range s {
		for b := range next {
			if strings.Count(a+b, " ") <= shortWord {
				both[a+b] = 1
			}
		}
	}
	return both
}

func (s wordSet) addAll(other wordSet) {
	for word := range other {
		s[word] = 1
	}
}

// meantBy is what items stand for when the rules make what is known so far.
func meantBy(items []*gItem, known map[string]wordSet) wordSet {
	words := wordSet{"": 1}
	for _, item := range items {
		own, isRule := known[item.s]
		if item.isBracket() {
			own = wordSet{}
			for _, alt := range item.alts {
				own.addAll(meantBy(alt, known))
			}
			switch item.kind {
			case '[':
				own[""] = 1
			case '{':
				once := own
				own = wordSet{"": 1}
				for range shortWord {
					own.addAll(own.then(once))
				}
			}
		} else if item.kind == '\'' || !isRule {
			own = wordSet{item.raw()[0] + " ": 1}
		}
		words = words.then(own)
	}
	return words
}

// rounds goes on until nothing is new.
func rounds(sets map[string]wordSet, round func()) {
	size := func() (n int) {
		for _, set := range sets {
			n += len(set)
		}
		return n
	}
	for before := -1; before != size(); {
		before = size()
		round()
	}
}

func (m model) makes() map[string]wordSet {
	known := map[string]wordSet{}
	for _, rule := range m.rules {
		known[rule.name] = wordSet{}
	}
	rounds(known, func() {
		for _, rule := range m.rules {
			for _, alt := range rule.alts {
				known[rule.name].addAll(meantBy(alt.items, known))
			}
		}
	})
	return known
}

func bnfMakes(b impl.Bnf) map[string]wordSet {
	known := map[string]wordSet{}
	for _, non := range b.Nons {
		known[non] = wordSet{}
	}
	rounds(known, func() {
		for _, p := range b.Prods {
			words := wordSet{"": 1}
			for _, symbol := range p.Right {
				if symbol < len(b.Terms) {
					words = words.then(wordSet{b.Terms[symbol].Name + " ": 1})
				} else {
					words = words.then(known[b.Nons[symbol-len(b.Terms)]])
				}
			}
			known[b.Nons[p.Left-len(b.Terms)]].addAll(words)
		}
	})
	return known
}

func TestPlainRulesMakeWhatBracketsMean(t *testing.T) {
	checked := 0
	for _, m := range someModels(3000, true) {
		g := m.grammar()
		b, code := impl.Lower(g)
		if code != impl.OK || len(b.Terms) > 5 || len(g.Parts) > 30 {
			continue
		}
		checked++
		made := bnfMakes(b)
		for rule, words := range m.makes() {
			if len(words) != len(made[rule]) {
				t.Fatalf("%s: %s: %v\n%v", m.shown(), rule, words, made[rule])
			}
			for word := range words {
				if made[rule][word] == 0 {
					t.Fatalf("%s: %s makes no %s", m.shown(), rule, word)
				}
			}
		}
	}
	if checked < 100 {
		t.Error(checked)
	}
}

func lowerCode(t *testing.T, text string) int {
	t.Helper()
	b, code := impl.Lower(mustRead(t, "language a;"+text))
	if code != impl.OK && !noBnf(b) {
		t.Error(text, b)
	}
	return code
}

func TestPlainRulesUpToTheLimits(t *testing.T) {
	bars := func(n int) string { return strings.Repeat("|", n) }
	for more, want := range []int{impl.OK, impl.ErrFull} {
		for _, text := range []string{
			"A=" + bars(impl.MaxProds-1+more) + ";",
			"A=(" + bars(impl.MaxProds-2+more) + ");",
			"A=[" + bars(impl.MaxProds-3+more) + "];",
			"A={" + bars(impl.MaxProds-3+more) + "};",
			"A=;B=" + bars(50) + "(|)[]{};C=" + bars(impl.MaxProds-60+more) + "();",
			"A=" + strings.Repeat("'x'", impl.MaxRight+more) + ";",
			"A='x'|(" + strings.Repeat("A ", impl.MaxRight+more) + ");",
			"A='x'|[" + strings.Repeat("A ", impl.MaxRight+more) + "];",
			"A='x'|{'y'|" + strings.Repeat("A ", impl.MaxRight-1+more) + "};",
			"A=" + strings.Repeat("()", impl.MaxRight+more) + ";",
		} {
			if code := lowerCode(t, text); code != want {
				t.Errorf("%s: %d", text, code)
			}
		}
	}
	// A Bnf may have more Terms and Nons than are right.
	b := mustLower(t, mustRead(t, "language a;A="+numbered(11, "|'a%[1]d''b%[1]d''c%[1]d''d%[1]d''e%[1]d''f%[1]d'")+";"))
	if len(b.Terms) != 66 || impl.BnfOK(b) {
		t.Error(len(b.Terms))
	}
	b = mustLower(t, mustRead(t, "language a;A="+strings.Repeat("(((((((((((())))))))))))|", 9)+";"))
	if len(b.Nons) != 109 || len(b.Prods) != 118 || impl.BnfOK(b) {
		t.Error(len(b.Nons), len(b.Prods))
	}
}

func TestLexersOfGrammars(t *testing.T) {
	for _, m := range someModels(3000, true) {
		var want []impl.Rule
		for _, term := range lowerOf(m).Terms {
			if strings.HasPrefix(term.Name, "'") {
				want = append(want, impl.Rule{Name: "Lit", Rx: escapedLit(strings.Trim(term.Name, "'")), In: "main"})
			}
		}
		for _, token := range m.tokens {
			want = append(want, impl.Rule{Name: token.Name, Rx: token.Rx, In: "main", Skip: token.Skip})
		}
		rules, code := impl.LexRules(m.grammar())
		if code != impl.OK || !slices.Equal(rules, want) || !impl.LexerOK(rules) {
			t.Fatalf("%s: %v %d", m.shown(), rules, code)
		}
	}
}

func escapedLit(lit string) string {
	rx := ""
	for _, r := range lit {
		if r < '0' || r > '9' && r < 'A' || r > 'Z' && r < 'a' || r > 'z' {
			rx += "\\"
		}
		rx += string(r)
	}
	return rx
}

func TestLexersReadTheLitsAlone(t *testing.T) {
	all := strings.ReplaceAll(everyByte(33, 127), "'", "")
	for i := range all {
		lit := strings.Repeat(all[i:i+1], 1+i%impl.MaxLit)
		rules, code := impl.LexRules(mustRead(t, "language a;A='"+lit+"';"))
		if code != impl.OK || len(rules) != 1 {
			t.Fatal(lit, rules, code)
		}
		for _, text := range []string{lit, lit + lit, lit[1:], "", "x" + lit, strings.Repeat("y", len(lit)), "\\" + lit} {
			if reads := mustMatch(t, rules[0].Rx, text); reads != (text == lit) {
				t.Errorf("%q as %q: %v", text, rules[0].Rx, reads)
			}
		}
	}
}

func TestLexersUpToTheLimits(t *testing.T) {
	for more, want := range []int{impl.OK, impl.ErrFull} {
		for _, text := range []string{
			"A=" + numbered(impl.MaxRules+more, "'%d'") + ";",
			numbered(impl.MaxRules-1, "token T%d~x~;") + "A='x'" + strings.Repeat("'y'", more) + "'x';",
			numbered(impl.MaxTokens, "skip T%d~x~;") + "A=" + strings.Repeat("'y'", more) + ";",
			numbered(10, "skip T%d~x~;") + "left'a''b''c''d';A=" + numbered(10+more, "{'%d'}") + ";",
		} {
			rules, code := impl.LexRules(mustRead(t, "language a;"+text))
			if code != want || code == impl.OK && len(rules) != impl.MaxRules || code != impl.OK && len(rules) != 0 {
				t.Errorf("%s: %v %d", text, rules, code)
			}
		}
	}
	// A lexer hangs on no limit of plain rules.
	text := "A=" + strings.Repeat("'x'", 100) + strings.Repeat("|", 200) + ";"
	if rules, code := impl.LexRules(mustRead(t, "language a;"+text)); lowerCode(t, text) != impl.ErrFull || code != impl.OK || len(rules) != 1 {
		t.Error(rules, code)
	}
	long := strings.Repeat("x", impl.MaxRx)
	rules, code := impl.LexRules(mustRead(t, "language a;token T~"+long+"~;A='"+strings.Repeat("!", impl.MaxLit)+"';"))
	if code != impl.OK || len(rules) != 2 || rules[0].Rx != strings.Repeat("\\!", impl.MaxLit) || rules[1].Rx != long {
		t.Error(rules, code)
	}
}

func TestGrammarsAreNotWrittenInto(t *testing.T) {
	for _, m := range someModels(300, true) {
		g := m.grammar()
		roomyParts(g)
		kept := copyGrammar(g)
		b, _ := impl.Lower(g)
		want, _ := impl.Lower(g)
		_, _ = impl.GrammarShow(g)
		_, _ = impl.GrammarCheck(g)
		rules, _ := impl.LexRules(g)
		spoilBnf(b)
		for i := range rules {
			rules[i] = impl.Rule{}
		}
		if !sameGrammar(g, kept) {
			t.Fatalf("%s: %v", m.shown(), g)
		}
		if again, _ := impl.Lower(g); !sameBnf(again, want) {
			t.Fatalf("%s: %v", m.shown(), again)
		}
	}
}

// roomyParts puts all lists of places into one array, each with the next one as its spare room.
func roomyParts(g impl.Grammar) {
	room := make([]int, 0, 1000)
	place := func(list []int) []int {
		from := len(room)
		room = append(room, list...)
		return room[from:len(room)]
	}
	for i := range g.Rules {
		for k := range g.Rules[i].Alts {
			g.Rules[i].Alts[k].Items = place(g.Rules[i].Alts[k].Items)
		}
	}
	for i := range g.Parts {
		for k := range g.Parts[i].Alts {
			g.Parts[i].Alts[k] = place(g.Parts[i].Alts[k])
		}
	}
}

// spoilBnf writes into all lists of an answer, and behind them.
func spoilBnf(b impl.Bnf) {
	for i := range b.Prods {
		_ = append(b.Prods[i].Right, 99, 99, 99)
		for k := range b.Prods[i].Right {
			b.Prods[i].Right[k] = -1
		}
		b.Prods[i] = impl.Prod{}
	}
	for i := range b.Terms {
		b.Terms[i] = impl.Term{}
	}
	for i := range b.Nons {
		b.Nons[i] = ""
	}
	_, _, _ = append(b.Prods, impl.Prod{}), append(b.Terms, impl.Term{}), append(b.Nons, "")
}

func TestListsOfPlainRulesAreApart(t *testing.T) {
	b := mustLower(t, mustRead(t, "language a;A='x''y'|A{A'x'|'y'}[A|'x''x''x'];B=A;"))
	want := mustLower(t, mustRead(t, "language a;A='x''y'|A{A'x'|'y'}[A|'x''x''x'];B=A;"))
	for i := range b.Prods {
		_ = append(b.Prods[i].Right, 99, 99)
	}
	if !sameBnf(b, want) {
		t.Error(b)
	}
	for i := range b.Prods {
		for k := range b.Prods[i].Right {
			b.Prods[i].Right[k] = -1
		}
		for k := i + 1; k < len(b.Prods); k++ {
			if !slices.Equal(b.Prods[k].Right, want.Prods[k].Right) {
				t.Error(i, k)
			}
		}
	}
}

func TestTerminals(t *testing.T) {
	r := rand.New(rand.NewSource(4))
	for _, m := range someModels(1000, true) {
		b, code := impl.Lower(m.grammar())
		if code != impl.OK || !impl.BnfOK(b) || len(b.Terms) == 0 {
			continue
		}
		var words []impl.Word
		var wantNumbers, wantPlaces []int
		for place := range r.Intn(20) {
			if r.Intn(4) == 0 {
				words = append(words, impl.Word{Name: oneOf(r, "W", "Lit", "A"), Text: " ", Skip: true})
				continue
			}
			number := r.Intn(len(b.Terms))
			word := impl.Word{Name: b.Terms[number].Name, Text: oneOf(r, "x", "", "Lit")}
			if strings.HasPrefix(word.Name, "'") {
				word = impl.Word{Name: "Lit", Text: strings.Trim(word.Name, "'")}
			}
			words = append(words, word)
			wantNumbers, wantPlaces = append(wantNumbers, number), append(wantPlaces, place)
		}
		kept := slices.Clone(words)
		numbers, places, code := impl.Terminals(b, words)
		if code != impl.OK || !slices.Equal(numbers, wantNumbers) || !slices.Equal(places, wantPlaces) || !slices.Equal(words, kept) {
			t.Fatalf("%v %v: %v %v %d", b.Terms, words, numbers, places, code)
		}
		_ = append(numbers, -1)
		if !slices.Equal(places, wantPlaces) {
			t.Fatal(places)
		}
		unknown := slices.Insert(words, r.Intn(len(words)+1), oneOf(r, impl.Word{Name: "Lit", Text: "?"}, impl.Word{Name: "Q", Text: "x"}, impl.Word{}, impl.Word{Name: "Lit", Text: "'+'"}, impl.Word{Name: "A:1"}))
		if numbers, places, code := impl.Terminals(b, unknown); code != impl.ErrUndef || len(numbers)+len(places) != 0 {
			t.Fatalf("%v %v: %v %v %d", b.Terms, unknown, numbers, places, code)
		}
	}
}

func TestTerminalsOfATextsWords(t *testing.T) {
	g := mustRead(t, "language a;token Id~[a-z]+~;skip W~ +~;A={Id|'if'|'+'|'++'};")
	rules, _ := impl.LexRules(g)
	words, code, at := impl.Lex(rules, "if x+++ ifx")
	if code != impl.OK {
		t.Fatal(code, at)
	}
	numbers, places, code := impl.Terminals(mustLower(t, g), words)
	if code != impl.OK || !slices.Equal(numbers, []int{1, 0, 3, 2, 0}) || !slices.Equal(places, []int{0, 2, 3, 4, 6}) {
		t.Error(numbers, places, code)
	}
}

func TestTerminalsUpToTheLimits(t *testing.T) {
	b := mustLower(t, mustRead(t, "language a;token T~x~;A=T;"))
	wrong := b
	wrong.Own = 0
	for _, word := range []impl.Word{{Name: "T", Text: "x"}, {Name: "W", Skip: true}} {
		words := slices.Repeat([]impl.Word{word}, impl.MaxWords)
		numbers, places, code := impl.Terminals(b, words)
		if word.Skip {
			words = words[:0]
		}
		if code != impl.OK || len(numbers) != len(words) || len(places) != len(words) {
			t.Error(len(numbers), len(places), code)
		}
		noTerminals(t, b, slices.Repeat([]impl.Word{word}, impl.MaxWords+1), impl.ErrBad)
		noTerminals(t, wrong, nil, impl.ErrBad)
	}
	noTerminals(t, b, slices.Repeat([]impl.Word{{Name: "Q"}}, impl.MaxWords), impl.ErrUndef)
	noTerminals(t, b, slices.Repeat([]impl.Word{{Name: "Q"}}, impl.MaxWords+1), impl.ErrBad)
	noTerminals(t, wrong, []impl.Word{{Name: "Q"}}, impl.ErrBad)
	noTerminals(t, impl.Bnf{}, nil, impl.ErrBad)
	// Lit stands for the LITs alone, be there a Term of this name or not.
	odd := impl.Bnf{Terms: []impl.Term{{Name: "Lit"}, {Name: "''"}, {Name: ""}}, Nons: []string{"A"}, Own: 1}
	numbers, _, code := impl.Terminals(odd, []impl.Word{{Name: "Lit"}, {Name: "", Text: "x"}, {Name: "''"}})
	if code != impl.OK || !slices.Equal(numbers, []int{1, 2, 1}) {
		t.Error(numbers, code)
	}
	noTerminals(t, odd, []impl.Word{{Name: "Lit", Text: "Lit"}}, impl.ErrUndef)
}

func noTerminals(t *testing.T, b impl.Bnf, words []impl.Word, want int) {
	t.Helper()
	if numbers, places, code := impl.Terminals(b, words); code != want || len(numbers) != 0 || len(places) != 0 {
		t.Errorf("%v: %v %v %d", b, numbers, places, code)
	}
}
