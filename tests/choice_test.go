package tests

import (
	"math"
	"math/rand"
	"slices"
	"testing"

	"loop.example/g00037/impl"
)

// Promise 12: what is chosen is what the document's sentences say, and a derivation of what it passed.
func TestChoicesOfManyRules(t *testing.T) {
	r := rand.New(rand.NewSource(71))
	met, codes := map[string]int{}, map[int]int{}
	list := manyRules(1500)
	for range 6000 {
		list = append(list, twiningRules(r))
	}
	for _, b := range list {
		for range 25 {
			asTheSentencesSay(t, b, r.Intn(len(b.Nons)), someWord(r, len(b.Terms), 9), met, codes)
		}
		if t.Failed() {
			return
		}
	}
	for _, what := range []string{"grown never", "grown once", "grown twice", "grown more", "asked for, and then not"} {
		if met[what] < 300 {
			t.Error(met)
		}
	}
	if codes[impl.OK] < 20000 || codes[impl.ErrNone] < 20000 || codes[impl.ErrLoop] < 2000 {
		t.Error(codes)
	}
}

func asTheSentencesSay(t *testing.T, b impl.Bnf, non int, word []int, met map[string]int, codes map[int]int) {
	t.Helper()
	list, end, code, done := chooseBy(b, non, word, met)
	if !done {
		return
	}
	codes[code]++
	wantChoice(t, b, non, word, list, end, code)
	if code == impl.OK && len(list) <= impl.MaxDeriv {
		wantYield(t, b, non, list, word[:end], impl.OK)
	}
	if code == impl.OK && !isCyclic(b) {
		if n, code := impl.Count(b, non, word[:end]); n == 0 || code != impl.OK {
			t.Errorf("%s: Count by %d of %v: %d, code %d", shownRules(b), non, word[:end], n, code)
		}
	}
}

// Promise 12: where a canonical table has no Clash, all of a word that is chosen is parsed to the same.
func TestWhatIsChosenIsParsedToTheSame(t *testing.T) {
	r := rand.New(rand.NewSource(72))
	list := manyRules(6000)
	for range 6000 {
		list = append(list, twiningRules(r))
	}
	tables, same, grown := 0, 0, 0
	for _, b := range list {
		table, clashes, code := impl.TableOf(b, impl.KdCanon)
		if code != impl.OK || len(clashes) > 0 || isCyclic(b) {
			continue
		}
		tables++
		leftRec := slices.Contains(mustFacts(t, b).LeftRec, true)
		for _, text := range allWords(len(b.Terms), 5) {
			word := termList(text)
			all, _ := impl.Chosen(b, word)
			d, code, at := impl.Parse(b, table, word)
			if !all || code == impl.ErrLoop {
				continue
			}
			wantChoice(t, b, 0, word, d, len(word), impl.OK)
			if code != impl.OK {
				t.Errorf("%s: %v is chosen, but not parsed: code %d at %d", shownRules(b), word, code, at)
			}
			same++
			if leftRec && len(d) > 2 {
				grown++
			}
		}
		if t.Failed() {
			return
		}
	}
	if tables < 1500 || same < 1500 || grown < 300 {
		t.Error(tables, same, grown)
	}
}

// someSum is a word of an expression, of at most so many terminals.
func someSum(r *rand.Rand, most int) []int {
	switch {
	case most >= 3 && r.Intn(3) > 0:
		left := someSum(r, most-2)
		return slices.Concat(left, []int{r.Intn(2)}, someSum(r, most-1-len(left)))
	case most >= 3 && r.Intn(3) == 0:
		return slices.Concat([]int{2}, someSum(r, most-2), []int{3})
	}
	return []int{4}
}

// Promise 12, by rules that people write: all words of the language are chosen, whatever their length.
func TestExpressionsAreChosenAsTheyAreParsed(t *testing.T) {
	r := rand.New(rand.NewSource(73))
	left := mustLower(t, mustRead(t, "language e;S=S'+'T|T;T=T'*'F|F;F='('S')'|'n';"))
	right := mustLower(t, mustRead(t, "language e;S=T'+'S|T;T=F'*'T|F;F='('S')'|'n';"))
	for _, b := range []impl.Bnf{left, right} {
		table, clashes := mustTable(t, b, impl.KdCanon)
		if len(clashes) > 0 {
			t.Fatal(clashes)
		}
		terms := []int{}
		for _, name := range []string{"'+'", "'*'", "'('", "')'", "'n'"} {
			terms = append(terms, slices.IndexFunc(b.Terms, func(term impl.Term) bool { return term.Name == name }))
		}
		longest := 0
		for range 400 {
			var word []int
			for _, term := range someSum(r, impl.MaxWord) {
				word = append(word, terms[term])
			}
			longest = max(longest, len(word))
			d, code, _ := impl.Parse(b, table, word)
			if code != impl.OK {
				t.Fatal(word, code)
			}
			wantChoice(t, b, 0, word, d, len(word), impl.OK)
			// One terminal less: what is chosen ends ahead of the word's end, or all of it is parsed too.
			short := word[:len(word)-1]
			all, _ := impl.Chosen(b, short)
			if _, code, _ := impl.Parse(b, table, short); all != (code == impl.OK) {
				t.Errorf("%s: %v: %v, code %d", shownRules(b), short, all, code)
			}
		}
		if longest < impl.MaxWord-1 {
			t.Error(longest)
		}
	}
}

func TestTheFirstWayThatFitsIsChosen(t *testing.T) {
	// A first Prod that fits and is shorter than a later one.
	b := plain("abc", "SA", "S=a", "S=ab", "A=Sb")
	chosenBy(t, b, "ab", 1, 0)
	chosenBy(t, b, "a", 1, 0)
	wantChoice(t, b, 1, []int{0, 1}, []int{2, 0}, 2, impl.OK)
	// No other way of a Non is tried when what stands behind it does not fit.
	b = plain("abc", "SA", "S=Ab", "S=c", "A=ab", "A=a")
	wantChoice(t, b, 0, lettersOf("ab"), nil, 0, impl.ErrNone)
	chosenBy(t, b, "abb", 3, 0, 2)
	chosenBy(t, b, "c", 1, 1)
	// But another way of the one around it is, with all that it had passed gone.
	b = plain("abc", "SA", "S=Ab", "S=Ac", "S=aa", "A=a")
	chosenBy(t, b, "ac", 2, 1, 3)
	chosenBy(t, b, "aa", 2, 2)
	chosenBy(t, b, "acc", 2, 1, 3)
	// A Right that is empty fits everywhere: what stands behind it is never tried.
	b = plain("ab", "S", "S=aS", "S=", "S=b")
	chosenBy(t, b, "", 0, 1)
	chosenBy(t, b, "b", 0, 1)
	chosenBy(t, b, "aab", 2, 0, 0, 1)
	// A Non without Prods.
	b = plain("ab", "SA", "S=A", "S=aA", "S=a")
	chosenBy(t, b, "a", 1, 2)
	wantChoice(t, b, 1, []int{0}, nil, 0, impl.ErrNone)
	wantChoice(t, b, 1, nil, nil, 0, impl.ErrNone)
	wantChoice(t, b, 0, nil, nil, 0, impl.ErrNone)
	wantChoice(t, plain("a", "S"), 0, []int{0}, nil, 0, impl.ErrNone)
}

func TestSeeds(t *testing.T) {
	// Straight, behind a shorter one, and twice in one Right.
	b := plain("ab", "S", "S=Sa", "S=b")
	chosenBy(t, b, "b", 1, 1)
	chosenBy(t, b, "ba", 2, 0, 1)
	chosenBy(t, b, "baaab", 4, 0, 0, 0, 1)
	wantChoice(t, b, 0, lettersOf("a"), nil, 0, impl.ErrNone)
	b = plain("ab", "S", "S=SS", "S=a")
	chosenBy(t, b, "aaa", 3, 0, 1, 0, 1, 1)
	b = plain("ab", "S", "S=SbS", "S=a")
	chosenBy(t, b, "abaab", 3, 0, 1, 1)
	chosenBy(t, b, "ababa", 5, 0, 1, 0, 1, 1)
	// The shorter way stands first: it is what is given each time, so the seed does not grow.
	b = plain("ab", "S", "S=b", "S=Sa")
	chosenBy(t, b, "baa", 1, 0)
	// One that can't begin.
	b = plain("ab", "S", "S=Sa")
	wantChoice(t, b, 0, lettersOf("a"), nil, 0, impl.ErrNone)
	wantChoice(t, b, 0, nil, nil, 0, impl.ErrNone)
	// One that is asked for and ends where it began: the seed is what is given, not what was tried with it.
	b = plain("ab", "S", "S=S", "S=a")
	chosenBy(t, b, "a", 1, 1)
	b = plain("ab", "S", "S=S", "S=")
	chosenBy(t, b, "a", 0, 1)
	// By way of another one.
	b = plain("abc", "SA", "S=Aa", "S=b", "A=Sc", "A=S")
	chosenBy(t, b, "baca", 4, 0, 2, 0, 3, 1)
	wantChoice(t, b, 1, lettersOf("baca"), []int{3, 0, 2, 0, 3, 1}, 4, impl.OK)
	// Behind a symbol that makes the empty word: that took nothing; or something, and then it is another place.
	b = plain("abc", "SA", "S=ASa", "S=Ab", "A=c", "A=")
	chosenBy(t, b, "baa", 3, 0, 3, 0, 3, 1, 3)
	chosenBy(t, b, "cbaa", 2, 1, 2)
	chosenBy(t, b, "ccba", 4, 0, 2, 1, 2)
}

func TestSeedsThatAreAskedForInOneRoundAndNotInTheNext(t *testing.T) {
	// A asks for its own seed as long as S has none; with one, A is S.
	b := plain("abc", "SA", "S=Ab", "S=a", "A=S", "A=Ac", "A=c")
	chosenBy(t, b, "abb", 3, 0, 2, 0, 2, 1)
	chosenBy(t, b, "ccb", 3, 0, 3, 4)
	chosenBy(t, b, "ccbb", 4, 0, 2, 0, 3, 4)
	wantChoice(t, b, 1, lettersOf("acbb"), []int{2, 1}, 1, impl.OK)
	// A could grow over the a as in the first round, but with a seed of S its first way fits.
	b = plain("abc", "SA", "S=Acc", "S=Ab", "S=a", "A=Sc", "A=Aa", "A=a")
	chosenBy(t, b, "aaab", 4, 1, 4, 4, 5)
	chosenBy(t, b, "acab", 1, 2)
	chosenBy(t, b, "aabccc", 6, 0, 3, 1, 4, 5)
	for _, word := range allWords(3, 7) {
		asTheSentencesSay(t, b, 0, termList(word), map[string]int{}, map[int]int{})
	}
}

func TestNothingElseIsRemembered(t *testing.T) {
	// A at 0 gives nothing while S has no seed, and c's way when it has: what it gave first must not be kept.
	b := plain("abc", "SA", "S=Ab", "S=a", "A=Sc", "A=S")
	chosenBy(t, b, "ab", 2, 0, 3, 1)
	chosenBy(t, b, "acbcb", 5, 0, 2, 0, 2, 1)
	// A has a try of its own when S is not being tried around it, also at the same place.
	b = plain("abc", "SAB", "S=AB", "S=a", "A=Sb", "A=S", "B=A")
	for _, word := range allWords(3, 5) {
		for non := range b.Nons {
			asTheSentencesSay(t, b, non, termList(word), map[string]int{}, map[int]int{})
		}
	}
	// Three are twined, and are tried within each other in more than one order, with seeds that end alike.
	b = plain("ab", "SAB", "S=Sab", "S=AaB", "S=Abb", "S=Sb", "A=S", "A=BA", "A=a", "B=b", "B=Abb", "B=Sa", "B=aAa")
	wantChoice(t, b, 2, lettersOf("aaaabb"), []int{10, 6}, 3, impl.OK)
	for _, word := range allWords(2, 7) {
		for non := range b.Nons {
			asTheSentencesSay(t, b, non, termList(word), map[string]int{}, map[int]int{})
		}
	}
	// The seed of one place is none of another one.
	b = plain("abc", "S", "S=SaS", "S=b", "S=")
	chosenBy(t, b, "bab", 3, 0, 1, 1)
	chosenBy(t, b, "aab", 3, 0, 2, 0, 2, 1)
}

// Each Non is tried twice by the one ahead of it, and 60 are told of in no time.
func TestManyTriesOfTheSame(t *testing.T) {
	b := plain("abc", "S")
	nons := impl.MaxProds / 2
	manyNons(&b, nons)
	for i := range nons - 1 {
		b.Prods = append(b.Prods, impl.Prod{Left: 3 + i, Right: []int{4 + i, 1}}, impl.Prod{Left: 3 + i, Right: []int{4 + i}})
	}
	last := 3 + nons - 1
	b.Prods = append(b.Prods, impl.Prod{Left: last, Right: []int{0, last}}, impl.Prod{Left: last})
	word := make([]int, impl.MaxWord)
	list, end, code := impl.Choose(b, 0, word)
	if len(list) != nons+impl.MaxWord || end != impl.MaxWord || code != impl.OK {
		t.Error(len(list), end, code)
	}
	word[impl.MaxWord-1] = 1
	list, end, code = impl.Choose(b, 0, word)
	if len(list) != nons+impl.MaxWord-1 || end != impl.MaxWord || code != impl.OK {
		t.Error(len(list), end, code)
	}
	wantYield(t, b, 0, list, word, impl.OK)
}

// Three that are twined, each tried at each place, grow by one terminal a round.
func TestManyRounds(t *testing.T) {
	b := plain("abc", "SNMK", "S=aSb", "S=aS", "S=Nc", "S=N", "N=Mb", "N=Na", "N=a", "M=Kb", "M=Nc", "M=Ma", "M=a", "K=Nb", "K=Mc", "K=Ka", "K=a")
	if isTwinedTooMuch(b) {
		t.Fatal("twined")
	}
	word := make([]int, impl.MaxWord)
	list, end, code := impl.Choose(b, 0, word)
	if end != impl.MaxWord || code != impl.OK {
		t.Error(end, code)
	}
	wantYield(t, b, 0, list, word, impl.OK)
	list, end, code = impl.Choose(b, 1, word)
	if end != impl.MaxWord || code != impl.OK || len(list) != impl.MaxWord || list[0] != 5 || list[impl.MaxWord-1] != 6 {
		t.Error(list, end, code)
	}
}

func TestLongChoices(t *testing.T) {
	for _, x := range []struct{ nons, times, length int }{{5, 12, 22621}, {23, 2, 8388607}, {60, 1, 60}} {
		b := bigEmpty(x.nons, x.times)
		list, end, code := impl.Choose(b, 0, nil)
		if len(list) != x.length || !countsDown(list, x.nons-1, x.times) || end != 0 || code != impl.OK {
			t.Error(x, len(list), end, code)
		}
		wantChosen(t, b, nil, true, impl.OK)
	}
	// There is no room for the numbers of this one; whether it is chosen can be told.
	b := bigEmpty(40, 12)
	if list, end, code := impl.Choose(b, 0, nil); len(list) != 0 || end != 0 || code != impl.ErrFull {
		t.Error(len(list), end, code)
	}
	wantChosen(t, b, nil, true, impl.OK)
}

func TestLongestWordsToChoose(t *testing.T) {
	word := make([]int, impl.MaxWord+1)
	for _, b := range []impl.Bnf{plain("a", "S", "S=Sa", "S="), plain("a", "S", "S=aS", "S=")} {
		want := make([]int, impl.MaxWord+1)
		want[impl.MaxWord] = 1
		wantChoice(t, b, 0, word[1:], want, impl.MaxWord, impl.OK)
		wantChoice(t, b, 0, word, nil, 0, impl.ErrBad)
	}
	// All of the seeds a Non can have, from the empty one on.
	b := plain("a", "S", "S=SS", "S=a")
	list, end, code := impl.Choose(b, 0, word[1:])
	if len(list) != 2*impl.MaxWord-1 || end != impl.MaxWord || code != impl.OK {
		t.Error(list, end, code)
	}
}

func TestChoicesOfWrongInputs(t *testing.T) {
	b := plain("ab", "SA", "S=a", "A=b")
	for _, term := range []int{-1, 2, 3, math.MinInt, math.MaxInt} {
		wantChoice(t, b, 0, []int{term}, nil, 0, impl.ErrBad)
		wantChoice(t, b, 0, []int{0, 0, term}, nil, 0, impl.ErrBad)
		wantChoice(t, b, 7, []int{term}, nil, 0, impl.ErrBad)
	}
	for _, non := range []int{-1, 2, 3, 4, math.MinInt, math.MaxInt} {
		wantChoice(t, b, non, []int{0}, nil, 0, impl.ErrPlace)
		wantChoice(t, b, non, nil, nil, 0, impl.ErrPlace)
		wantChoice(t, b, non, make([]int, impl.MaxWord+1), nil, 0, impl.ErrBad)
		wantChoice(t, impl.Bnf{}, non, nil, nil, 0, impl.ErrBad)
	}
	wantChoice(t, b, 0, []int{1}, nil, 0, impl.ErrNone)
	wantChoice(t, b, 1, []int{0}, nil, 0, impl.ErrNone)
	for i, spoil := range []func(b *impl.Bnf){
		func(b *impl.Bnf) { b.Nons = nil },
		func(b *impl.Bnf) { b.Own = 0 },
		func(b *impl.Bnf) { b.Prods[0].Left = 0 },
		func(b *impl.Bnf) { b.Prods[0].Right = []int{4} },
		func(b *impl.Bnf) { b.Prods[1].Level = 1 },
		func(b *impl.Bnf) { b.Terms[1].Name = "a" },
		func(b *impl.Bnf) { b.Prods[1].Right = make([]int, impl.MaxRight+1) },
	} {
		wrong := plain("ab", "SA", "S=a", "A=b")
		spoil(&wrong)
		if list, end, code := impl.Choose(wrong, 0, []int{0}); len(list) != 0 || end != 0 || code != impl.ErrBad {
			t.Error(i, list, end, code)
		}
		wantChosen(t, wrong, []int{0}, false, impl.ErrBad)
	}
}

func TestChoicesKeepAndShareNothing(t *testing.T) {
	r := rand.New(rand.NewSource(74))
	for range 1500 {
		b := roomyRules(twiningRules(r))
		word := append(make([]int, 0, 20), someWord(r, len(b.Terms), 6)...)
		kept, keptWord := copyRules(b), slices.Clone(word[:cap(word)])
		list, end, code := impl.Choose(b, 0, word)
		want := slices.Clone(list)
		spoilLists(list)
		wantChoice(t, b, 0, word, want, end, code)
		if !sameBnf(copyRules(b), kept) || !slices.Equal(word[:cap(word)], keptWord) {
			t.Fatalf("%s: written into", shownRules(b))
		}
	}
}
