package tests

import (
	"math/rand"
	"slices"
	"testing"

	"loop.example/g00037/impl"
)

// Promise 13: the change is the one that the document's sentences lead to, step by step.
func TestRepairsOfManyRules(t *testing.T) {
	r := rand.New(rand.NewSource(81))
	met, codes := map[string]int{}, map[int]int{}
	list := manyRules(1400)
	for range 1400 {
		list = append(list, twiningRules(r))
	}
	cyclic := 0
	for i, b := range list {
		cyclic += oneFor(isCyclic(b))
		for range 3 {
			asTheStepsSay(t, b, someWord(r, len(b.Terms), 6), somePrices(r, len(b.Terms), 1+i%4), met, codes)
		}
		if t.Failed() {
			return
		}
	}
	for _, what := range []string{"k or d", "k or i", "d or i"} {
		if met[what] < 500 {
			t.Error(met)
		}
	}
	if met["i or i"] < 20 || codes[impl.OK] < 5000 || codes[impl.ErrNone] < 1000 || cyclic < 500 {
		t.Error(met, codes, cyclic)
	}
}

func asTheStepsSay(t *testing.T, b impl.Bnf, word []int, c impl.Costs, met map[string]int, codes map[int]int) {
	t.Helper()
	want, code := repairBy(b, word, c, met)
	codes[code]++
	wantFix(t, b, word, c, want, code)
}

// wordyRules have several Prods for each Non, none shorter than least; one makes terminals alone.
func wordyRules(r *rand.Rand, terms int, least int, longest int) impl.Bnf {
	b := plain("abcdefgh"[:terms], "SABC"[:1+r.Intn(4)])
	for non := range b.Nons {
		for n := range 1 + r.Intn(4) {
			p := impl.Prod{Left: terms + non}
			for range least + r.Intn(longest-least+1) {
				symbol := r.Intn(terms)
				if n > 0 && r.Intn(3) == 0 {
					symbol = terms + r.Intn(len(b.Nons))
				}
				p.Right = append(p.Right, symbol)
			}
			b.Prods = append(b.Prods, p)
		}
	}
	return b
}

// Prices up to the highest and words of all lengths; many a repair is too dear.
func TestDearRepairs(t *testing.T) {
	r := rand.New(rand.NewSource(82))
	codes, costs := map[int]int{}, map[int]int{}
	for range 1200 {
		b := wordyRules(r, 1+r.Intn(3), 3, 12)
		word, c := someWord(r, len(b.Terms), impl.MaxRepair), somePrices(r, len(b.Terms), impl.MaxPrice)
		want, code := repairBy(b, word, c, nil)
		codes[code]++
		costs[want.Cost/10]++
		wantFix(t, b, word, c, want, code)
		if t.Failed() {
			return
		}
	}
	if codes[impl.ErrFull] < 20 {
		t.Error(codes)
	}
	for tens := range 6 {
		if costs[tens] < 20 {
			t.Error(costs)
		}
	}
}

// Several terminals for the same price: which one is put in is seen most here.
func TestRepairsOfShortWords(t *testing.T) {
	r := rand.New(rand.NewSource(83))
	met, codes := map[string]int{}, map[int]int{}
	for range 5000 {
		b := wordyRules(r, 2+r.Intn(4), 1, 3)
		asTheStepsSay(t, b, someWord(r, len(b.Terms), 2), somePrices(r, len(b.Terms), 1+r.Intn(2)), met, codes)
		if t.Failed() {
			return
		}
	}
	if met["i or i"] < 300 || codes[impl.OK] < 1000 {
		t.Error(met, codes)
	}
}

// Promise 13: the edits make the word at the cost, the start makes it, and no word of the start that is known costs less; one that is a word is kept.
func TestRepairsAreWordsAndNoneCostsLess(t *testing.T) {
	r := rand.New(rand.NewSource(84))
	met := map[string]int{}
	for i, b := range manyRules(2500) {
		most := 1 + i%6
		made := waysOf(t, b, most, 1)[len(b.Terms)]
		for range 20 {
			asThePromiseOfRepairsSays(t, b, someWord(r, len(b.Terms), most), somePrices(r, len(b.Terms), 1+i%impl.MaxPrice), most, made, met)
		}
		if t.Failed() {
			return
		}
	}
	if met["repaired"] < 20000 || met["kept"] < 2000 || met["changed"] < 10000 {
		t.Error(met)
	}
}

// asThePromiseOfRepairsSays is told all words up to most terminals that the start makes.
func asThePromiseOfRepairsSays(t *testing.T, b impl.Bnf, word []int, c impl.Costs, most int, made ways, met map[string]int) {
	t.Helper()
	fix, code := impl.Repair(b, word, c)
	for other := range made {
		if cost := distance(word, termList(other), c); cost <= impl.MaxCost && (code != impl.OK || cost < fix.Cost) {
			t.Errorf("%s: %v by %v: %v, code %d, but %v costs %d", shownRules(b), word, c, fix, code, termList(other), cost)
		}
	}
	if code != impl.OK {
		return
	}
	met["repaired"]++
	wantApplied(t, word, fix.Edits, fix.Word, impl.OK)
	if cost := priceOf(fix.Edits, c); cost != fix.Cost {
		t.Errorf("%s: %v by %v: %v costs %d", shownRules(b), word, c, fix, cost)
	}
	isOne := made[textOf(word)] > 0
	if isOne != (fix.Cost == 0) || isOne != slices.Equal(fix.Word, word) || len(fix.Word) <= most && made[textOf(fix.Word)] == 0 {
		t.Errorf("%s: %v by %v: %v", shownRules(b), word, c, fix)
	}
	if !isCyclic(b) && len(fix.Word) <= impl.MaxWord {
		if n, code := impl.Count(b, 0, fix.Word); n == 0 || code != impl.OK {
			t.Errorf("%s: Count of %v: %d, code %d", shownRules(b), fix.Word, n, code)
		}
	}
	met["kept"] += oneFor(isOne && len(word) > 0)
	met["changed"] += oneFor(!isOne)
}

// textOf is a word as the helpers know it.
func textOf(word []int) string {
	var text []byte
	for _, term := range word {
		text = append(text, byte(term))
	}
	return string(text)
}

// Promise 13 in other words: nothing that WordsOf tells costs less, and each of its words is kept.
func TestNoWordThatIsFoundCostsLess(t *testing.T) {
	r := rand.New(rand.NewSource(85))
	for _, b := range []impl.Bnf{
		plain("ab", "S", "S=aSb", "S="),
		plain("ab", "S", "S=aSb", "S=SS", "S=ab"),
		plain("abc", "SA", "S=SbA", "S=A", "A=a", "A=cSc"),
		plain("ab", "S", "S=aSa", "S=bSb", "S=a", "S=b", "S="),
		plain("ab", "SAB", "S=AB", "A=Aa", "A=", "B=bB", "B="),
	} {
		if isCyclic(b) {
			t.Fatal(shownRules(b))
		}
		list := mustWords(t, b, impl.MaxShort)
		for _, found := range list {
			var edits []impl.Edit
			for _, term := range found.Word {
				edits = append(edits, impl.Edit{Kind: impl.EdKeep, Term: term})
			}
			wantFix(t, b, found.Word, somePrices(r, len(b.Terms), impl.MaxPrice), impl.Fix{Word: found.Word, Edits: edits}, impl.OK)
		}
		for range 300 {
			word, c := someWord(r, len(b.Terms), impl.MaxRepair), somePrices(r, len(b.Terms), 3)
			fix, code := impl.Repair(b, word, c)
			for _, found := range list {
				if cost := distance(word, found.Word, c); code != impl.OK || cost < fix.Cost {
					t.Fatalf("%s: %v by %v: %v, code %d, but %v costs %d", shownRules(b), word, c, fix, code, found.Word, cost)
				}
			}
			if len(fix.Word) <= impl.MaxShort && !slices.ContainsFunc(list, func(found impl.Found) bool { return slices.Equal(found.Word, fix.Word) }) {
				t.Fatalf("%s: %v by %v: %v is none", shownRules(b), word, c, fix)
			}
		}
	}
}

func TestRepairsOfTexts(t *testing.T) {
	g := mustRead(t, "language e;token N~[0-9]+~;skip W~ +~;left'+';left'*';E=E'+'E|E'*'E|'('E')'|N;")
	b := mustLower(t, g)
	rules, _ := impl.LexRules(g)
	for _, x := range []struct {
		text string
		cost int
		made string
	}{
		{"1 + 2 * 3", 0, "N '+' N '*' N"},
		{"1 + + 2", 1, "N '+' N"},
		{"(1 + 2", 1, "'(' N '+' N ')'"},
		{"1 2", 1, "N"},
		{"1 + 2)", 1, "N '+' N"},
		{"()", 1, "'(' N ')'"},
		{"", 1, "N"},
		{"* (1 + (2 3) +", 4, "'(' N '+' '(' N ')' '+' N ')'"},
		{") + (", 4, "'(' N ')'"},
	} {
		words, _, _ := impl.Lex(rules, x.text)
		word, _, code := impl.Terminals(b, words)
		if code != impl.OK {
			t.Fatal(x.text, code)
		}
		fix, code := impl.Repair(b, word, onePrice(b, 1))
		made := ""
		for i, term := range fix.Word {
			if i > 0 {
				made += " "
			}
			made += b.Terms[term].Name
		}
		if fix.Cost != x.cost || made != x.made || code != impl.OK {
			t.Errorf("%q: %d, %s, code %d", x.text, fix.Cost, made, code)
		}
	}
}
