package tests

import (
	"fmt"
	"math/rand"
	"slices"
	"strings"
	"testing"

	"loop.example/g00037/impl"
)

// someLexer has names R0, R1 .. in its order.
func someLexer(r *rand.Rand) []impl.Rule {
	var rules []impl.Rule
	for n := 1 + r.Intn(7); n > 0; n-- {
		p := somePatFit(r, 1+r.Intn(3))
		if p.reads("") {
			p = &pat{kind: 'c', kids: []*pat{atomPat("b", "b"), p}}
		}
		rules = append(rules, impl.Rule{Rx: p.show(0), In: []string{"main", "main", "x", "pop"}[r.Intn(4)], To: []string{"", "", "pop", "x", "main", "gone"}[r.Intn(6)], Skip: r.Intn(3) == 0})
	}
	for _, mode := range []string{"main", "x"} {
		if r.Intn(3) > 0 {
			rules = append(rules, impl.Rule{Rx: "[abc]", In: mode})
		}
	}
	for i := range rules {
		rules[i].Name = fmt.Sprint("R", i)
	}
	return rules
}

func rulesOf(rules []impl.Rule, mode string) ([]impl.Rule, []string) {
	var own []impl.Rule
	var rxs []string
	for _, rule := range rules {
		if rule.In == mode {
			own = append(own, rule)
			rxs = append(rxs, rule.Rx)
		}
	}
	return own, rxs
}

// cutBy is the words of a text, each found by asking RxMatch of all begins of what is left.
func cutBy(t *testing.T, rules []impl.Rule, text string) ([]impl.Word, int, int) {
	var words []impl.Word
	modes := []string{"main"}
	for at := 0; at < len(text); {
		own, rxs := rulesOf(rules, modes[len(modes)-1])
		length, first := longestBegin(t, rxs, text[at:])
		if length == 0 {
			return nil, impl.ErrText, at
		}
		_, _, reach, _ := impl.DfaRun(mustMachine(t, rxs...), text, at)
		words = append(words, impl.Word{Name: own[first].Name, Text: text[at : at+length], At: at, Reach: reach, Skip: own[first].Skip, Modes: strings.Join(modes, "/")})
		if to := own[first].To; to == "pop" {
			modes = modes[:len(modes)-1]
		} else if to != "" {
			modes = append(modes, to)
		}
		if len(modes) == 0 || len(modes) > impl.MaxModes {
			return nil, impl.ErrText, at
		}
		at += length
	}
	return words, impl.OK, 0
}

func TestWordsAreCutAsTold(t *testing.T) {
	r := rand.New(rand.NewSource(6))
	long := 0
	for range 150 {
		rules := someLexer(r)
		for range 4 {
			text := someText(r, r.Intn(16))
			words, code, at := impl.Lex(rules, text)
			wantWords, wantCode, wantAt := cutBy(t, rules, text)
			if code != wantCode || at != wantAt || !slices.Equal(words, wantWords) {
				t.Fatalf("Lex(%v, %q) is %v, %d, %d and should be %v, %d, %d", rules, text, words, code, at, wantWords, wantCode, wantAt)
			}
			if len(words) > 3 {
				long++
			}
		}
	}
	if long < 60 {
		t.Errorf("only %d texts had more than three words", long)
	}
}

func checkWords(t *testing.T, rules []impl.Rule, text string) []impl.Word {
	t.Helper()
	words, code, at := impl.Lex(rules, text)
	if code != impl.OK || at != 0 {
		t.Fatalf("Lex of %d bytes answers %d, %d", len(text), code, at)
	}
	place := 0
	for _, w := range words {
		if w.At != place || w.Text == "" || !strings.HasPrefix(text[place:], w.Text) {
			t.Fatalf("a word at %d is not what stands at %d", w.At, place)
		}
		i := slices.IndexFunc(rules, func(rule impl.Rule) bool { return rule.Name == w.Name })
		if len(w.Text) <= impl.MaxMatch && !mustMatch(t, rules[i].Rx, w.Text) {
			t.Fatalf("%q is not read as %q", w.Text, rules[i].Rx)
		}
		if mode := w.Modes[strings.LastIndex(w.Modes, "/")+1:]; mode != rules[i].In || rules[i].Skip != w.Skip {
			t.Fatalf("%v is not of %v", w, rules[i])
		}
		place += len(w.Text)
	}
	if place != len(text) {
		t.Fatalf("words of %d bytes for a text of %d", place, len(text))
	}
	return words
}

func stringLexer() []impl.Rule {
	return []impl.Rule{
		{Name: "If", Rx: "if", In: "main"}, {Name: "Id", Rx: "[a-z]+", In: "main"}, {Name: "Num", Rx: "[0-9]+(\\.[0-9]+)?", In: "main"}, {Name: "Ws", Rx: "[ \\n]+", In: "main", Skip: true}, {Name: "Open", Rx: "\"", In: "main", To: "str"},
		{Name: "Chars", Rx: "[^\"$]+", In: "str"}, {Name: "Hole", Rx: "$\\{", In: "str", To: "main"}, {Name: "Dollar", Rx: "$", In: "str"}, {Name: "Close", Rx: "\"", In: "str", To: "pop"}, {Name: "End", Rx: "\\}", In: "main", To: "pop"},
	}
}

func TestWordsOneBehindTheOtherAreTheText(t *testing.T) {
	r := rand.New(rand.NewSource(7))
	for range 200 {
		var text strings.Builder
		for r.Intn(20) > 0 {
			text.WriteString([]string{"if", "ifa", "1.", "12.5", " \n", "\"a$b\"", "\"${x}\"", "\"", "q\xff\"", "\"${\"${1}\"}\""}[r.Intn(10)])
		}
		rules := stringLexer()
		if words, code, at := impl.Lex(rules, text.String()); code == impl.OK {
			checkWords(t, rules, text.String())
		} else if code != impl.ErrText || len(words) > 0 || at >= text.Len() {
			t.Fatalf("Lex of %q: %v, %d, %d", text.String(), words, code, at)
		}
	}
	words := checkWords(t, stringLexer(), "if \"a${ife}\"12")
	for i, want := range []impl.Word{
		{Name: "If", Text: "if", Reach: 3, Modes: "main"}, {Name: "Ws", Text: " ", At: 2, Reach: 4, Skip: true, Modes: "main"}, {Name: "Open", Text: "\"", At: 3, Reach: 5, Modes: "main"}, {Name: "Chars", Text: "a", At: 4, Reach: 6, Modes: "main/str"}, {Name: "Hole", Text: "${", At: 5, Reach: 8, Modes: "main/str"},
		{Name: "Id", Text: "ife", At: 7, Reach: 11, Modes: "main/str/main"}, {Name: "End", Text: "}", At: 10, Reach: 12, Modes: "main/str/main"}, {Name: "Close", Text: "\"", At: 11, Reach: 13, Modes: "main/str"}, {Name: "Num", Text: "12", At: 12, Reach: 15, Modes: "main"},
	} {
		if words[i] != want {
			t.Errorf("%v should be %v", words[i], want)
		}
	}
	// One looks as far as a longer word could go, and comes back.
	if words := checkWords(t, []impl.Rule{{Name: "A", Rx: "a", In: "main"}, {Name: "B", Rx: "aaab", In: "main"}}, "aaa"); len(words) != 3 || words[0].Reach != 4 || words[1].Reach != 4 || words[2].Reach != 4 {
		t.Error(words)
	}
}

func TestTextsWithoutWords(t *testing.T) {
	gone := []impl.Rule{{Name: "A", Rx: "a", In: "main", To: "gone"}, {Name: "B", Rx: "b", In: "other"}}
	for _, x := range []struct {
		rules []impl.Rule
		text  string
		at    int
	}{
		{stringLexer(), "?", 0}, {stringLexer(), "if ?", 3}, {stringLexer(), "1.x", 1}, {stringLexer(), "a\xff", 1}, {stringLexer(), "\"${?", 3}, {stringLexer(), "\"${a}\"?", 6},
		// pop leaves no mode, also behind the last word
		{stringLexer(), "a}", 1}, {stringLexer(), "a} ", 1}, {stringLexer(), "\"${}\" }", 6}, {stringLexer(), "}", 0},
		// modes without rules, and rules of other modes
		{gone, "aa", 1}, {gone, "ab", 1}, {gone, "b", 0}, {nil, "a", 0}, {gone[1:], "b", 0},
	} {
		if words, code, at := impl.Lex(x.rules, x.text); code != impl.ErrText || at != x.at || len(words) != 0 {
			t.Errorf("Lex of %q: %v, %d, %d and should be ErrText at %d", x.text, words, code, at, x.at)
		}
	}
	for _, rules := range [][]impl.Rule{nil, stringLexer(), gone, gone[1:]} {
		if words, code, at := impl.Lex(rules, ""); code != impl.OK || at != 0 || len(words) != 0 {
			t.Errorf("Lex of the empty text: %v, %d, %d", words, code, at)
		}
	}
	if words := checkWords(t, gone, "a"); len(words) != 1 {
		t.Error(words)
	}
}

func TestModes(t *testing.T) {
	nest := []impl.Rule{{Name: "In", Rx: "<", In: "main", To: "main"}, {Name: "Out", Rx: ">", In: "main", To: "pop"}, {Name: "A", Rx: "a", In: "main"}}
	deepest := strings.Repeat("<", impl.MaxModes-1)
	words := checkWords(t, nest, deepest+"a")
	if last := words[len(words)-1].Modes; last != strings.Repeat("main/", impl.MaxModes-1)+"main" {
		t.Errorf("the most modes: %q", last)
	}
	checkWords(t, nest, strings.Repeat(deepest+strings.Repeat(">", impl.MaxModes-1), 5)+"a")
	for _, rest := range []string{"<", "<a", "<>"} {
		if words, code, at := impl.Lex(nest, deepest+rest); code != impl.ErrText || at != impl.MaxModes-1 || len(words) != 0 {
			t.Errorf("one mode too many: %v, %d, %d", words, code, at)
		}
	}
	// a mode may be named pop, but no To leads there
	odd := []impl.Rule{{Name: "A", Rx: "a", In: "main", To: "x"}, {Name: "B", Rx: "b", In: "x", To: "pop"}, {Name: "C", Rx: "a|b|c", In: "pop"}}
	if words := checkWords(t, odd, "abab"); len(words) != 4 || words[2].Modes != "main" {
		t.Error(words)
	}
	if _, code, at := impl.Lex(odd, "abc"); code != impl.ErrText || at != 2 {
		t.Error(code, at)
	}
}

// wrongRules make a lexer none, each for one reason.
func wrongRules() map[string]impl.Rule {
	long := strings.Repeat("n", impl.MaxName+1)
	return map[string]impl.Rule{
		"nothing": {}, "no name": {Rx: "a", In: "main"}, "no name of a name": {Name: "1", Rx: "a", In: "main"}, "a long name": {Name: long, Rx: "a", In: "main"},
		"no mode": {Name: "A", Rx: "a"}, "no name of a mode": {Name: "A", Rx: "a", In: "a-b"}, "a long mode": {Name: "A", Rx: "a", In: long},
		"no name of a To": {Name: "A", Rx: "a", In: "main", To: "/"}, "a long To": {Name: "A", Rx: "a", In: "main", To: long},
		"no pattern": {Name: "A", Rx: "(", In: "main"}, "a long pattern": {Name: "A", Rx: strings.Repeat("a", impl.MaxRx+1), In: "main"},
		"the empty pattern": {Name: "A", In: "main"}, "an empty text": {Name: "A", Rx: "a*", In: "main"}, "an empty text of another mode": {Name: "A", Rx: "a|b?", In: "x"},
	}
}

func TestLexers(t *testing.T) {
	long := strings.Repeat("n", impl.MaxName)
	right := []impl.Rule{{Name: long, Rx: strings.Repeat("a", impl.MaxRx), In: long, To: long}, {Name: "A", Rx: "a", In: "main"}, {Name: "A", Rx: "a", In: "main", To: "pop", Skip: true}, {Name: "pop", Rx: "a", In: "pop", To: "nowhere"}}
	if !impl.LexerOK(right) || !impl.LexerOK(nil) || !impl.LexerOK(stringLexer()) {
		t.Error("right lexers")
	}
	for name, rule := range wrongRules() {
		for _, rules := range [][]impl.Rule{{rule}, append(stringLexer(), rule), append([]impl.Rule{rule}, stringLexer()...)} {
			if impl.LexerOK(rules) {
				t.Errorf("%s: LexerOK", name)
			}
			for _, text := range []string{"", "a", "?"} {
				if words, code, at := impl.Lex(rules, text); len(words) != 0 || code != impl.ErrBad || at != 0 {
					t.Errorf("%s: Lex answers %v, %d, %d", name, words, code, at)
				}
			}
		}
	}
}

func TestLimitsOfLexers(t *testing.T) {
	var most []impl.Rule
	for i := range impl.MaxRules {
		most = append(most, impl.Rule{Name: fmt.Sprint("R", i), Rx: string(rune('a' + i)), In: "main"})
	}
	if words := checkWords(t, most, "at"); !impl.LexerOK(most) || words[1].Name != "R19" {
		t.Error("the most rules")
	}
	over := append(most, impl.Rule{Name: "Z", Rx: "z", In: "x"})
	if words, code, at := impl.Lex(over, "a"); impl.LexerOK(over) || len(words) != 0 || code != impl.ErrBad || at != 0 {
		t.Error("one rule too many", words, code, at)
	}
	rules := []impl.Rule{{Name: "As", Rx: "a+", In: "main"}, {Name: "B", Rx: "b", In: "main"}, {Name: "C", Rx: "b+c", In: "main"}}
	if words := checkWords(t, rules, strings.Repeat("a", impl.MaxText)); len(words) != 1 || words[0].Reach != impl.MaxText+1 {
		t.Error("one long word", words)
	}
	if words := checkWords(t, rules, strings.Repeat("b", impl.MaxText)); len(words) != impl.MaxText {
		t.Errorf("%d words", len(words))
	}
	checkWords(t, rules, strings.Repeat("a", impl.MaxMatch)+"b"+strings.Repeat("a", impl.MaxMatch+1))
	for _, text := range []string{strings.Repeat("a", impl.MaxText+1), "?" + strings.Repeat("a", impl.MaxText)} {
		if words, code, at := impl.Lex(rules, text); len(words) != 0 || code != impl.ErrBad || at != 0 {
			t.Error("one byte too many", words, code, at)
		}
	}
}

func chainRules(mode string, sets int) []impl.Rule {
	var rules []impl.Rule
	for i, rx := range chains(sets) {
		rules = append(rules, impl.Rule{Name: fmt.Sprint("C", i), Rx: rx, In: mode})
	}
	return rules
}

func TestSetsOfModes(t *testing.T) {
	fits := append(chainRules("main", impl.MaxSets), chainRules("x", impl.MaxSets)...)
	if words := checkWords(t, fits, chain("1", impl.MaxRx)+chain("3", impl.MaxRx)); len(words) != 2 {
		t.Error(words)
	}
	for _, mode := range []string{"main", "x"} {
		full := append(stringLexer(), chainRules(mode, impl.MaxSets+1)...)
		for _, text := range []string{"", "a", "?"} {
			if words, code, at := impl.Lex(full, text); !impl.LexerOK(full) || len(words) != 0 || code != impl.ErrFull || at != 0 {
				t.Errorf("too many sets in mode %s: %v, %d, %d", mode, words, code, at)
			}
		}
		if _, code, _ := impl.Lex(full, strings.Repeat("a", impl.MaxText+1)); code != impl.ErrBad {
			t.Errorf("a long text by too many sets: %d", code)
		}
	}
}

func TestLexKeepsAndSharesNothing(t *testing.T) {
	rules := append(stringLexer(), impl.Rule{Name: "Spare"})
	given := rules[:len(rules)-1]
	words := checkWords(t, given, "if \"a\"")
	want := slices.Clone(words)
	words = words[:cap(words)]
	for i := range words {
		words[i] = impl.Word{Name: "spoilt"}
	}
	if again := checkWords(t, given, "if \"a\""); !slices.Equal(again, want) {
		t.Error("two answers share memory")
	}
	if !slices.Equal(rules, append(stringLexer(), impl.Rule{Name: "Spare"})) {
		t.Error("an argument was written to")
	}
}
