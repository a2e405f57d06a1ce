package tests

import (
	"fmt"
	"math/rand"
	"slices"
	"strings"
	"testing"

	"loop.example/g00037/impl"
)

// wantReading asks for the tree that is written down, and for its Yield.
func wantReading(t *testing.T, l tongue, text string, want string) {
	t.Helper()
	x, code, at := checkReading(t, l, text)
	if got := written(x); got != want || code != impl.OK || at != 0 {
		t.Errorf("%s: Reading of %q is %s, %d, %d and should be %s", l.name, text, got, code, at, want)
	}
	if yield, code := impl.TreeYield(x); yield != text || code != impl.OK {
		t.Errorf("%s: the Yield of %q is %q, %d", l.name, text, yield, code)
	}
}

func noReading(t *testing.T, why string, l tongue, text string, wantCode int, wantAt int) {
	t.Helper()
	x, code, at := checkReading(t, l, text)
	if !isZero(x) || code != wantCode || at != wantAt {
		t.Errorf("%s: Reading is %s, %d, %d and should be %d, %d", why, written(x), code, at, wantCode, wantAt)
	}
}

func wantComplete(t *testing.T, l tongue, text string, want ...string) {
	t.Helper()
	names, code, at := checkComplete(t, l, text)
	if !slices.Equal(names, want) || code != impl.OK || at != 0 {
		t.Errorf("%s: Complete of %q is %q, %d, %d and should be %q", l.name, text, names, code, at, want)
	}
}

func noComplete(t *testing.T, why string, l tongue, text string, wantCode int, wantAt int) {
	t.Helper()
	names, code, at := checkComplete(t, l, text)
	if len(names) != 0 || code != wantCode || at != wantAt {
		t.Errorf("%s: Complete is %q, %d, %d and should be %d, %d", why, names, code, at, wantCode, wantAt)
	}
}

func TestReadingAsWritten(t *testing.T) {
	l := tongueOf(t, small, nil)
	wantReading(t, l, "1", `(N Num"1")`)
	wantReading(t, l, "1+2+3", `(Add (Add (N Num"1") Lit"+" (N Num"2")) Lit"+" (N Num"3"))`)
	wantReading(t, l, "1+(2+3)", `(Add (N Num"1") Lit"+" (E Lit"(" (Add (N Num"2") Lit"+" (N Num"3")) Lit")"))`)
	wantReading(t, l, " 1", `(N Ws" " Num"1")`)
	wantReading(t, l, "1 ", `(N Num"1" Ws" ")`)
	wantReading(t, l, "% a\n\n1 +% b\n 2 % c", `(Add (N Note"% a" Ws"\010\010" Num"1") Ws" " Lit"+" (N Note"% b" Ws"\010 " Num"2") Ws" " Note"% c")`)
	empty := tongueOf(t, sums, nil)
	wantReading(t, empty, "", `(All)`)
	wantReading(t, empty, " % none", `(All Ws" " Note"% none")`)
	wantReading(t, empty, "a=1;b", `(All (Set Id"a" Lit"=" (Num Num"1") Lit";") (Sum Id"b"))`)
	all := tongueOf(t, anyBytes, nil)
	wantReading(t, all, "a\n\x00\xff", `(All One"a" One"\010" One"\000" One"\255")`)
}

func TestReadingFaults(t *testing.T) {
	l := tongueOf(t, small, nil)
	for _, test := range []struct {
		why, text string
		at        int
	}{
		{"no word at the begin", "?1", 0},
		{"no word between", "1 ? 2", 2},
		{"no word at the end", "1 + ?", 4},
		{"no word, and a terminal ahead that can't come", "1 1 ?", 4},
		{"no word, and the end too early", "1 + ?", 4},
		{"a terminal that can't come, at the begin", "+1", 0},
		{"a terminal that can't come, behind others", "1 1", 2},
		{"a terminal that can't come, behind what stands between", "% so\n )", 6},
		{"the first of two terminals that can't come", "1 1 1", 2},
		{"a terminal that can't come, at the end", "(1))", 3},
		{"a terminal that can't come, and Skip words behind it", "1 1  % so", 2},
		{"the end too early", "1 +", 3},
		{"the end too early, with Skip words behind", "1 + \n% so", 9},
		{"the end too early, behind a bracket", "((1)", 4},
		{"an empty text", "", 0},
		{"Skip words alone", " % so\n", 6},
	} {
		noReading(t, test.why, l, test.text, impl.ErrText, test.at)
	}
}

// Each word that a language's own lexer cuts is a terminal or Skip: so ErrUndef is never told. What could be thought to be none is told otherwise.
func TestWordsThatAreNoTerminals(t *testing.T) {
	l := tongueOf(t, sums, nil)
	noReading(t, "a LIT that stands in Levels alone", l, "1 - 2", impl.ErrText, 2)
	noComplete(t, "a LIT that stands in Levels alone", l, "1 - 2", impl.ErrText, 2)
	spare := tongueOf(t, `language spare; token A ~a~; token B ~b~; token Lits ~l~; skip Ws ~ ~; All = A {'x' A};`, nil)
	noReading(t, "a token that no rule needs", spare, "a b", impl.ErrText, 2)
	noComplete(t, "a token that no rule needs", spare, "a b", impl.ErrText, 2)
	noReading(t, "a token that no rule needs, at the begin", spare, " l", impl.ErrText, 1)
	// A LIT counts ahead of a token that reads as much.
	twice := tongueOf(t, `language twice; token A ~[a-z]~; All = {'x' A};`, nil)
	wantReading(t, twice, "xa", `(All Lit"x" A"a")`)
	noReading(t, "a LIT in the place of a token", twice, "xx", impl.ErrText, 1)
}

func TestCompleteAsWritten(t *testing.T) {
	l := tongueOf(t, small, nil)
	wantComplete(t, l, "", "Num", "'('")
	wantComplete(t, l, " % so\n", "Num", "'('")
	wantComplete(t, l, "1", "'+'", ".")
	wantComplete(t, l, " 1 ", "'+'", ".")
	wantComplete(t, l, "(1", "'+'", "')'")
	wantComplete(t, l, "(1)% so", "'+'", ".")
	wantComplete(t, l, "1 +", "Num", "'('")
	wantComplete(t, tongueOf(t, anyBytes, nil), "", "One", ".")
	// Tokens come ahead of LITs, and these by where they first stand, whatever the order of the rules that need them.
	order := tongueOf(t, `language order; token B ~b~; skip S ~ ~; token A ~a~; left 'z' 'y'; All = X | Y; X = 'y' | B | 'x'; Y = A | 'z' | ;`, nil)
	wantComplete(t, order, "", "B", "A", "'y'", "'x'", "'z'", ".")
	wantComplete(t, order, " x", ".")
	wantComplete(t, tongueOf(t, `language one; All = 'a';`, nil), "a", ".")
	wantComplete(t, tongueOf(t, `language one; All = 'a';`, nil), "", "'a'")
	wantComplete(t, tongueOf(t, `language naught; All = ;`, nil), "", ".")
	wantComplete(t, tongueOf(t, `language never; All = All 'x';`, nil), "")
}

func TestCompleteFaults(t *testing.T) {
	l := tongueOf(t, small, nil)
	for _, test := range []struct {
		why, text string
		at        int
	}{
		{"no word", "1 ?", 2},
		{"no word, and a terminal ahead that can't come", "1 1 ?", 4},
		{"a terminal that can't come", " +", 1},
		{"a terminal that can't come, behind others", "1 1 +", 2},
		{"a terminal that can't come, behind what stands between", "1 % so\n (", 8},
	} {
		noComplete(t, test.why, l, test.text, impl.ErrText, test.at)
	}
}

// The table is the merged one: here it has a Clash that the canonical one does not have, and reads less.
func TestReadingByMergedTables(t *testing.T) {
	l := tongueOf(t, `language merged; S = 'a' E 'c' | 'a' F 'd' | 'b' F 'c' | 'b' E 'd'; E = 'e'; F = 'e';`, nil)
	wantReading(t, l, "aec", `(S Lit"a" (E Lit"e") Lit"c")`)
	wantReading(t, l, "bed", `(S Lit"b" (E Lit"e") Lit"d")`)
	noReading(t, "a reduce that is lost", l, "aed", impl.ErrText, 2)
	noReading(t, "a reduce that is lost", l, "bec", impl.ErrText, 2)
	wantComplete(t, l, "ae", "'c'")
	wantComplete(t, l, "be", "'d'")
	wantServed(t, "a reduce that is lost", l.source,
		opened("x", "aed"),
		noReply(msgOf(impl.MsTree, "x", 1, 0), impl.ErrText, 1, 2),
		asked(impl.MsNext, "x", 1, 2, 0, "'c'"))
}

// Rules that make the empty word over and over: the table never comes to an end of it.
func TestReadingsWithoutAnEnd(t *testing.T) {
	around := tongueOf(t, `language loop; skip Ws ~ ~; S = 'a' A 'b'; E = ; A = E A | ;`, nil)
	noReading(t, "a loop ahead of a terminal", around, " a  b", impl.ErrLoop, 4)
	noComplete(t, "a loop ahead of a terminal", around, " a  b", impl.ErrLoop, 4)
	noReading(t, "no loop with the end", around, "a ", impl.ErrText, 2)
	wantComplete(t, around, "a ")
	end := tongueOf(t, `language loop; skip Ws ~ ~; S = 'a' A; E = ; A = E A | ;`, nil)
	noReading(t, "a loop with the end", end, "a  ", impl.ErrLoop, 3)
	wantComplete(t, end, "a  ")
	wantComplete(t, end, "", "'a'")
}

func TestReadingLimits(t *testing.T) {
	// Flat trees: the words, and one more for the node around them.
	flat := tongueOf(t, `language flat; token X ~x~; skip Ws ~ ~; All = {X};`, nil)
	blanks := func(n int) string { return strings.Repeat(" ", n) }
	exes := func(n int) string { return strings.Repeat("x", n) }
	reads := func(why string, l tongue, text string) {
		t.Helper()
		x, code, at := checkReading(t, l, text)
		if yield, _ := impl.TreeYield(x); yield != text || code != impl.OK || at != 0 {
			t.Errorf("%s: %d, %d", why, code, at)
		}
	}
	reads("MaxParse terminals", flat, blanks(3)+exes(impl.MaxParse))
	noReading(t, "one terminal more than MaxParse", flat, blanks(3)+exes(impl.MaxParse+1), impl.ErrBad, 0)
	noComplete(t, "one terminal more than MaxParse", flat, blanks(3)+exes(impl.MaxParse+1), impl.ErrBad, 0)
	wantComplete(t, flat, blanks(3)+exes(impl.MaxParse), "X", ".")
	reads("MaxNodes trees", flat, exes(100)+blanks(impl.MaxNodes-101))
	noReading(t, "one tree more than MaxNodes, with MaxWords words", flat, exes(100)+blanks(impl.MaxWords-100), impl.ErrFull, 0)
	wantComplete(t, flat, exes(100)+blanks(impl.MaxWords-100), "X", ".")
	noReading(t, "one word more than MaxWords", flat, blanks(1)+exes(100)+blanks(impl.MaxWords-100), impl.ErrBad, 0)
	noComplete(t, "one word more than MaxWords", flat, blanks(1)+exes(100)+blanks(impl.MaxWords-100), impl.ErrBad, 0)
	noReading(t, "too many words, and a fault of Lex", flat, blanks(impl.MaxWords+1)+"?", impl.ErrText, impl.MaxWords+1)
	noReading(t, "too many terminals, and a fault of Lex", flat, exes(impl.MaxParse+1)+"?", impl.ErrText, impl.MaxParse+1)

	long := tongueOf(t, `language long; token A ~a+~; token B ~b+~; All = {A | B};`, nil)
	piece := strings.Repeat("a", impl.MaxLeaf) + strings.Repeat("b", impl.MaxLeaf)
	most := strings.Repeat(piece, impl.MaxText/len(piece))
	reads("MaxText bytes, in leaves of MaxLeaf", long, most)
	wantComplete(t, long, most, "A", "B", ".")
	noReading(t, "one byte more than MaxText", long, most+"a", impl.ErrBad, 0)
	noComplete(t, "one byte more than MaxText", long, most+"a", impl.ErrBad, 0)
	noReading(t, "a text that is too long, and a fault of Lex", long, "?"+most, impl.ErrBad, 0)
	noReading(t, "a leaf that is too long", long, "b"+strings.Repeat("a", impl.MaxLeaf+1), impl.ErrFull, 0)
	wantComplete(t, long, "b"+strings.Repeat("a", impl.MaxLeaf+1), "A", "B", ".")

	l := tongueOf(t, small, nil)
	nested := func(depth int) string {
		return strings.Repeat("(", depth-2) + "1" + strings.Repeat(")", depth-2)
	}
	reads("MaxDepth deep", l, nested(impl.MaxDepth))
	noReading(t, "deeper by one than MaxDepth", l, nested(impl.MaxDepth+1), impl.ErrFull, 0)
	wantComplete(t, l, nested(impl.MaxDepth+1), "'+'", ".")
}

// bracketed puts something into so many brackets, each a Prod of its own without a node.
func bracketed(within string, n int) string {
	return strings.Repeat("(", n) + within + strings.Repeat(")", n)
}

// A derivation can have more numbers than TreeOf takes.
func TestReadingOfLongDerivations(t *testing.T) {
	l := tongueOf(t, "language many; All = {"+bracketed("'x'", 18)+" | "+bracketed("'y'", 19)+"};", nil)
	text := func(exes int) string {
		return strings.Repeat("x", exes) + strings.Repeat("y", impl.MaxParse-exes)
	}
	for exes, want := range map[int]int{2: impl.MaxDeriv, 1: impl.MaxDeriv + 1} {
		words, _, _ := impl.Lex(l.rules, text(exes))
		terms, _, _ := impl.Terminals(l.b, words)
		if d, code, _ := impl.Parse(l.b, l.table, terms); len(d) != want || code != impl.OK {
			t.Fatalf("%d numbers, %d", len(d), code)
		}
	}
	if x, code, at := checkReading(t, l, text(2)); len(x.Kids) != impl.MaxParse || code != impl.OK || at != 0 {
		t.Errorf("MaxDeriv numbers: %d, %d", code, at)
	}
	noReading(t, "one number more than MaxDeriv", l, text(1), impl.ErrBad, 0)
}

// The machine of a language's words is made with the first text that is cut, so its fault is none of the language.
func TestReadingByTooLargeAMachine(t *testing.T) {
	l := tongueOf(t, "language wide; token T ~(a|b)*a"+strings.Repeat("(a|b)", 9)+"~; All = {T};", nil)
	for _, text := range []string{"", "a", "?"} {
		noReading(t, "a machine that is too large", l, text, impl.ErrFull, 0)
		noComplete(t, "a machine that is too large", l, text, impl.ErrFull, 0)
	}
	noReading(t, "a text that is too long, and a machine that is too large", l, strings.Repeat("a", impl.MaxText+1), impl.ErrBad, 0)
}

// noLanguage asks all three that take one.
func noLanguage(t *testing.T, why string, lang string, want int) {
	t.Helper()
	for _, text := range []string{"", "1", "?", strings.Repeat("?", impl.MaxText+1)} {
		if x, code, at := impl.Reading(lang, text); !isZero(x) || code != want || at != -1 {
			t.Errorf("%s: Reading is %d, %d and should be %d", why, code, at, want)
		}
		if names, code, at := impl.Complete(lang, text); len(names) != 0 || code != want || at != -1 {
			t.Errorf("%s: Complete is %q, %d, %d and should be %d", why, names, code, at, want)
		}
	}
	for _, msgs := range [][]impl.Msg{nil, {{Kind: impl.MsOpen, Doc: "a"}}, make([]impl.Msg, impl.MaxMsgs+1)} {
		if replies, code := impl.Serve(lang, msgs); len(replies) != 0 || code != want {
			t.Errorf("%s: Serve is %d replies, %d and should be %d", why, len(replies), code, want)
		}
	}
}

// litChoice has so many different LITs, one of which may come any number of times.
func litChoice(n int) string { return "{" + strings.TrimSuffix(numbered(n, "'%d'|"), "|") + "}" }

// stateRules has a canonical table of so many states, from 242 on: U stands between ten pairs of LITs, and has states of its own for what comes behind it; the last way has one for each of its LITs.
func stateRules(states int) string {
	ways := ""
	for i := range 10 {
		ways += fmt.Sprintf("'%d' U '%c' | ", i, 'a'+i)
	}
	return "language states; S = " + ways + strings.Repeat("'a' ", states-242) + "; U = " + strings.Repeat("'0' ", 9) + "V; V = " + strings.Repeat("'0' ", 11) + ";"
}

// groupRules has so many Nons, of which all but the first are brackets.
func groupRules(nons int) string {
	return "A = " + strings.Repeat("() () () () () () () () () | ", (nons-1)/9) + strings.Repeat("() ", (nons-1)%9) + ";"
}

func TestLanguagesThatAreNone(t *testing.T) {
	groups := groupRules(impl.MaxNons + 1)
	tooLong := strings.Repeat("'0' ", impl.MaxRight+1)
	for _, test := range []struct {
		why, lang string
		want      int
	}{
		{"nothing", "", impl.ErrText},
		{"it ends too early", "language", impl.ErrText},
		{"a fault far behind", small + " ?", impl.ErrText},
		{"too many bytes", small + strings.Repeat(" ", impl.MaxSource), impl.ErrBad},
		{"too many bytes, and a fault", "?" + strings.Repeat(" ", impl.MaxSource), impl.ErrBad},
		{"too many tokens, and no rule", "language a;" + numbered(impl.MaxTokens+1, "token T%d ~a~;"), impl.ErrFull},
		{"too many rules, and two of one name", "language a;" + strings.Repeat("A = ;", impl.MaxGRules+1), impl.ErrFull},

		{"no rule", "language a;", impl.ErrNone},
		{"two rules of one name", "language a; A = ; A = ;", impl.ErrTwice},
		{"a rule that is called Lit", "language a; Lit = ;", impl.ErrTwice},
		{"a pattern that is none", "language a; token T ~(~; A = T;", impl.ErrRx},
		{"a pattern that reads nothing", "language a; token T ~a*~; A = T;", impl.ErrRx},
		{"a name of nothing", "language a; A = B;", impl.ErrUndef},
		{"a name of a token that is Skip", "language a; skip B ~b~; A = B;", impl.ErrUndef},
		{"two of one name, and a Right that is too long", "language a; A = " + tooLong + "; A = ;", impl.ErrTwice},
		{"a name of nothing, and a Right that is too long", "language a; A = B " + tooLong + ";", impl.ErrUndef},
		{"a pattern that is none, and too many LITs", "language a; token T ~(~; A = T " + litChoice(21) + ";", impl.ErrRx},
		{"a name of nothing, and too many Nons", "language a; " + groups + "B = C;", impl.ErrUndef},

		{"a Right that is too long", "language a; A = " + tooLong + ";", impl.ErrFull},
		{"too many Prods", "language a; A = " + strings.Repeat("|", impl.MaxProds) + ";", impl.ErrFull},
		{"a Right that is too long, and too many Nons", "language a; " + groups + "B = " + tooLong + ";", impl.ErrFull},

		{"too many LITs", "language a; A = " + litChoice(21) + ";", impl.ErrFull},
		{"too many LITs and tokens", "language a; token T ~a~; A = " + litChoice(20) + ";", impl.ErrFull},
		{"too many LITs, and too many Nons", "language a; " + groups + "B = " + numbered(12, "'%d' ") + ";" + numbered(9, "token T%d ~t~;"), impl.ErrFull},

		{"too many Nons", "language a; " + groups, impl.ErrBad},
		{"too many states", stateRules(impl.MaxStates + 1), impl.ErrFull},
	} {
		noLanguage(t, test.why, test.lang, test.want)
	}
}

// What is met exactly is a language.
func TestLanguagesAtTheirLimits(t *testing.T) {
	wantReading(t, tongueOf(t, small+strings.Repeat(" ", impl.MaxSource-len(small)), nil), "1", `(N Num"1")`)
	lits := tongueOf(t, "language a; A = "+litChoice(20)+";", nil)
	wantReading(t, lits, "19", `(A Lit"19")`)
	states := tongueOf(t, stateRules(impl.MaxStates), nil)
	if canon, _ := mustTable(t, states.b, impl.KdCanon); len(canon.Acts) != impl.MaxStates {
		t.Errorf("%d states", len(canon.Acts))
	}
	wantComplete(t, states, "1"+strings.Repeat("0", 20), "'b'")
	wantComplete(t, states, strings.Repeat("a", impl.MaxStates-242), ".")
	wantReading(t, tongueOf(t, "language a; "+groupRules(impl.MaxNons), nil), "", `(A)`)
}

// spoiled is a text with some bytes changed.
func (l tongue) spoiled(r *rand.Rand, text string) string {
	for range 1 + r.Intn(3) {
		e := someEdit(r, len(text), 0)
		text, _ = impl.Edited(text, edit(e.At, min(e.Del, r.Intn(4)), oneOf(r, l.someIns(r), "?")))
	}
	return text
}

// Promise 11, of texts in whole languages, and of such that are none in them.
func TestTreesOfTextsInLanguages(t *testing.T) {
	r := rand.New(rand.NewSource(183))
	for _, l := range servedTongues(t) {
		read, faults := 0, map[int]int{}
		for i := range 200 {
			text := l.someText(r, 2+r.Intn(8))
			if i%2 == 1 {
				text = l.spoiled(r, text)
			}
			x, code, at := checkReading(t, l, text)
			if code == impl.OK {
				read++
				if yield, code := impl.TreeYield(x); yield != text || code != impl.OK || at != 0 {
					t.Fatalf("%s: %q has the Yield %q, %d", l.name, text, yield, code)
				}
			} else if faults[code]++; at < 0 || at > len(text) {
				t.Fatalf("%s: %q is %d at %d", l.name, text, code, at)
			}
			checkComplete(t, l, text[:r.Intn(len(text)+1)])
		}
		if faults[impl.ErrUndef] > 0 || read < 40 || l.name != "bytes" && l.name != "gaps" && faults[impl.ErrText] < 20 {
			t.Errorf("%s: read %d, faults %v", l.name, read, faults)
		}
	}
}

// sample is a word of a terminal.
func (l tongue) sample(name string) string {
	if lit, isLit := strings.CutPrefix(name, "'"); isLit {
		return strings.TrimSuffix(lit, "'")
	}
	return l.tokens[name][0]
}

// A name is told just when the text goes on with a word of it; the end just when all of it is read.
func TestCompletionsGoOn(t *testing.T) {
	r := rand.New(rand.NewSource(184))
	for _, l := range servedTongues(t) {
		told := 0
		for range 40 {
			whole := l.someText(r, 2+r.Intn(4))
			text := whole[:r.Intn(len(whole)+1)] + "\n"
			names, code, _ := impl.Complete(l.source, text)
			if code != impl.OK || l.name == "bytes" {
				continue
			}
			for _, term := range l.b.Terms {
				_, code, at := impl.Complete(l.source, text+l.sample(term.Name)+" ")
				if goes := code == impl.OK; goes != slices.Contains(names, term.Name) || !goes && at != len(text) {
					t.Fatalf("%s: behind %q come %q; with %s it is %d, %d", l.name, text, names, term.Name, code, at)
				}
			}
			_, code, _ = impl.Reading(l.source, text)
			if ends := code != impl.ErrText; ends != slices.Contains(names, ".") {
				t.Fatalf("%s: behind %q come %q; at its end it is %d", l.name, text, names, code)
			}
			told++
		}
		if told < 8 && l.name != "bytes" {
			t.Errorf("%s: %d", l.name, told)
		}
	}
}
