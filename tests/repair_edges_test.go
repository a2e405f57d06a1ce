package tests

import (
	"math"
	"math/rand"
	"slices"
	"testing"

	"loop.example/g00037/impl"
)

// nestedPairs make all a ahead of as many b.
func nestedPairs() impl.Bnf { return plain("ab", "S", "S=aSb", "S=") }

func TestToEndOrToGoOn(t *testing.T) {
	ones := prices("11", "11")
	b := plain("ab", "S", "S=a", "S=ab")
	fixed(t, b, "a", ones, 0, "ka", "a")
	fixed(t, b, "ab", ones, 0, "kakb", "ab")
	fixed(t, b, "", ones, 1, "ia", "a")
	fixed(t, b, "b", ones, 1, "iakb", "ab")
	fixed(t, b, "aab", ones, 1, "kadakb", "ab")
	// What is made is the begin of all others, but none itself.
	b = plain("ab", "S", "S=abS", "S=aba")
	fixed(t, b, "ab", ones, 1, "kakbia", "aba")
	fixed(t, b, "a", ones, 2, "kaibia", "aba")
	fixed(t, b, "", ones, 3, "iaibia", "aba")
	// The empty word is one: nothing is put in where all are gone, nor ahead of the end.
	fixed(t, nestedPairs(), "", ones, 0, "", "")
	fixed(t, nestedPairs(), "b", ones, 1, "db", "")
	fixed(t, nestedPairs(), "ab", ones, 0, "kakb", "ab")
}

func TestToKeepOrToDelete(t *testing.T) {
	ones := prices("11", "11")
	b := plain("ab", "S", "S=a")
	fixed(t, b, "aa", ones, 1, "kada", "a")
	fixed(t, b, "aaa", ones, 2, "kadada", "a")
	b = plain("ab", "S", "S=ab")
	fixed(t, b, "aab", ones, 1, "kadakb", "ab")
	fixed(t, b, "abab", ones, 2, "kakbdadb", "ab")
	fixed(t, b, "abb", ones, 1, "kakbdb", "ab")
	b = plain("ab", "S", "S=a", "S=b")
	fixed(t, b, "ab", ones, 1, "kadb", "a")
	fixed(t, b, "ba", ones, 1, "kbda", "b")
	// Not where it costs more to keep it.
	fixed(t, b, "ab", prices("11", "12"), 1, "dakb", "b")
	fixed(t, b, "ba", prices("11", "21"), 1, "dbka", "a")
	b = plain("ab", "S", "S=ba")
	fixed(t, b, "aba", ones, 1, "dakbka", "ba")
	fixed(t, b, "aba", prices("11", "91"), 9, "dakbka", "ba")
	b = plain("ab", "S", "S=ba", "S=aa")
	fixed(t, b, "aba", ones, 1, "kadbka", "aa")
	fixed(t, b, "aba", prices("11", "12"), 1, "dakbka", "ba")
}

func TestToKeepOrToPutIn(t *testing.T) {
	ones := prices("11", "11")
	b := plain("ab", "S", "S=aa")
	fixed(t, b, "a", ones, 1, "kaia", "aa")
	b = plain("ab", "S", "S=aab", "S=aba")
	fixed(t, b, "ab", ones, 1, "kakbia", "aba")
	fixed(t, b, "aa", ones, 1, "kakaib", "aab")
	fixed(t, b, "ba", ones, 1, "iakbka", "aba")
	// One that is put in first may be less, but another one is kept.
	b = plain("ab", "S", "S=ab", "S=ba")
	fixed(t, b, "b", ones, 1, "kbia", "ba")
	fixed(t, b, "b", prices("12", "11"), 1, "kbia", "ba")
}

func TestToDeleteOrToPutIn(t *testing.T) {
	ones := prices("11", "11")
	fixed(t, plain("ab", "S", "S=b"), "a", ones, 2, "daib", "b")
	fixed(t, plain("ab", "S", "S=bb"), "a", ones, 3, "daibib", "bb")
	fixed(t, plain("ab", "S", "S=bb"), "aa", ones, 4, "dadaibib", "bb")
	fixed(t, plain("ab", "S", "S=bbb"), "aba", ones, 4, "dakbdaibib", "bbb")
	fixed(t, plain("ab", "S", "S=ba"), "ab", ones, 2, "dakbia", "ba")
	fixed(t, nestedPairs(), "b", ones, 1, "db", "")
	fixed(t, nestedPairs(), "ba", ones, 2, "dbkaib", "ab")
	fixed(t, nestedPairs(), "bb", ones, 2, "dbdb", "")
	fixed(t, nestedPairs(), "b", prices("11", "22"), 1, "iakb", "ab")
	fixed(t, nestedPairs(), "bb", prices("11", "22"), 2, "iaiakbkb", "aabb")
	fixed(t, nestedPairs(), "bb", prices("21", "22"), 4, "dbdb", "")
	fixed(t, nestedPairs(), "ba", prices("11", "32"), 3, "dbkaib", "ab")
	fixed(t, nestedPairs(), "ba", prices("11", "29"), 3, "iakbda", "ab")
}

func TestWhichTerminalIsPutIn(t *testing.T) {
	b := plain("abc", "S", "S=c", "S=b", "S=a")
	fixed(t, b, "", prices("111", "111"), 1, "ia", "a")
	fixed(t, b, "", prices("211", "111"), 1, "ib", "b")
	fixed(t, b, "", prices("221", "111"), 1, "ic", "c")
	fixed(t, b, "", prices("987", "111"), 7, "ic", "c")
	b = plain("abc", "S", "S=ba", "S=ac", "S=ab")
	fixed(t, b, "", prices("111", "111"), 2, "iaib", "ab")
	fixed(t, b, "", prices("121", "111"), 2, "iaic", "ac")
	fixed(t, b, "", prices("212", "111"), 3, "iaib", "ab")
	// More of them at the same price.
	fixed(t, plain("ab", "S", "S=bb", "S=a"), "", prices("21", "11"), 2, "ia", "a")
	fixed(t, plain("ab", "S", "S=b", "S=aaa"), "", prices("13", "11"), 3, "iaiaia", "aaa")
	fixed(t, plain("ab", "S", "S=bb", "S=aba", "S=abb"), "", prices("12", "11"), 4, "iaibia", "aba")
	// Between others, by the second of two that differ.
	b = plain("abcd", "SAB", "S=aAB", "A=c", "A=b", "B=dc", "B=db")
	fixed(t, b, "ad", prices("1111", "1111"), 2, "kaibkdib", "abdb")
	fixed(t, b, "ac", prices("1111", "1111"), 2, "kakcidib", "acdb")
	// The highest that there can be.
	letters := manyLetters(impl.MaxTerms)
	b = plain(letters, "S", "S="+letters[impl.MaxTerms-1:], "S="+letters[impl.MaxTerms-2:])
	last := impl.MaxTerms - 1
	wantFix(t, b, []int{0}, onePrice(b, 1), impl.Fix{Cost: 2, Word: []int{last}, Edits: []impl.Edit{{Kind: impl.EdDelete}, {Kind: impl.EdInsert, Term: last}}}, impl.OK)
	wantFix(t, b, []int{last - 1}, onePrice(b, 1), impl.Fix{Cost: 1, Word: []int{last - 1, last}, Edits: []impl.Edit{{Kind: impl.EdKeep, Term: last - 1}, {Kind: impl.EdInsert, Term: last}}}, impl.OK)
}

// Of ways to share a word out to the symbols of a Right, and of Prods, the first change counts, not the first way.
func TestRepairsGoByStepsNotByWays(t *testing.T) {
	ones := prices("111", "111")
	for _, b := range []impl.Bnf{
		plain("abc", "SAB", "S=AB", "A=a", "A=ab", "B=bc", "B=c"),
		plain("abc", "SAB", "S=AB", "A=ab", "A=a", "B=c", "B=bc"),
	} {
		fixed(t, b, "ac", ones, 0, "kakc", "ac")
		fixed(t, b, "abc", ones, 0, "kakbkc", "abc")
		fixed(t, b, "abbc", ones, 0, "kakbkbkc", "abbc")
		fixed(t, b, "cba", ones, 3, "dcdbkaic", "ac")
		fixed(t, b, "bb", ones, 2, "iakbkbic", "abbc")
		fixed(t, b, "b", ones, 2, "iakbic", "abc")
		fixed(t, b, "c", ones, 1, "iakc", "ac")
		fixed(t, b, "ca", ones, 2, "dckaic", "ac")
	}
}

func TestRulesOfAllKindsAreRepaired(t *testing.T) {
	ones := prices("11", "11")
	// The start makes only the empty word.
	for _, b := range []impl.Bnf{plain("ab", "S", "S="), plain("ab", "SA", "S=AAA", "A="), plain("ab", "S", "S=SS", "S=")} {
		fixed(t, b, "", ones, 0, "", "")
		fixed(t, b, "ab", prices("11", "23"), 5, "dadb", "")
	}
	// Cyclic ones.
	for _, b := range []impl.Bnf{
		plain("ab", "S", "S=S", "S=a"),
		plain("ab", "SA", "S=A", "A=S", "A=a"),
		plain("ab", "SAB", "S=BAB", "A=BSB", "A=a", "B="),
	} {
		fixed(t, b, "", ones, 1, "ia", "a")
		fixed(t, b, "a", ones, 0, "ka", "a")
		fixed(t, b, "ba", ones, 1, "dbka", "a")
	}
	b := plain("ab", "S", "S=SS", "S=a", "S=")
	fixed(t, b, "", ones, 0, "", "")
	fixed(t, b, "aabaa", ones, 1, "kakadbkaka", "aaaa")
	// Nons that make nothing, and ones that the start does not lead to.
	b = plain("ab", "SABC", "S=A", "S=aAb", "S=ab", "S=B", "A=AA", "A=aA", "C=", "C=b")
	fixed(t, b, "", ones, 2, "iaib", "ab")
	fixed(t, b, "b", ones, 1, "iakb", "ab")
	// One without terminals at all.
	b = plain("", "S", "S=SS", "S=")
	wantFix(t, b, nil, impl.Costs{}, impl.Fix{}, impl.OK)
	noFix(t, b, []int{0}, impl.Costs{}, impl.ErrBad)
	noFix(t, b, nil, prices("1", ""), impl.ErrBad)
	noFix(t, b, nil, prices("", "1"), impl.ErrBad)
	noFix(t, plain("", "S", "S=S"), nil, impl.Costs{}, impl.ErrNone)
}

func TestStartsThatMakeNothing(t *testing.T) {
	ones := prices("11", "11")
	for _, b := range []impl.Bnf{plain("ab", "S"), plain("ab", "S", "S=S"), plain("ab", "S", "S=aSb"), plain("ab", "SA", "S=A", "A=Sa"), plain("ab", "SA", "S=aA", "A=AA"), plain("ab", "SA", "A=a")} {
		for _, word := range []string{"", "a", "ab", "bbbbbbbbbb"} {
			noFix(t, b, lettersOf(word), ones, impl.ErrNone)
			noFix(t, b, lettersOf(word), prices("99", "99"), impl.ErrNone)
		}
		noFix(t, b, make([]int, impl.MaxRepair+1), ones, impl.ErrBad)
		noFix(t, b, []int{2}, ones, impl.ErrBad)
		noFix(t, b, nil, prices("11", "1"), impl.ErrBad)
		noFix(t, b, nil, prices("01", "11"), impl.ErrBad)
	}
}

// allOf is n edits of a terminal.
func allOf(kind int, term int, n int) []impl.Edit {
	return slices.Repeat([]impl.Edit{{Kind: kind, Term: term}}, n)
}

func TestTheHighestCost(t *testing.T) {
	one := prices("1", "1")
	// All is put in, behind none and behind as many as there can be.
	for _, kept := range []int{0, 1, impl.MaxRepair} {
		want := impl.Fix{Cost: impl.MaxCost, Word: make([]int, kept+impl.MaxCost), Edits: slices.Concat(allOf(impl.EdKeep, 0, kept), allOf(impl.EdInsert, 0, impl.MaxCost))}
		wantFix(t, longRules(kept+impl.MaxCost), make([]int, kept), one, want, impl.OK)
		noFix(t, longRules(kept+impl.MaxCost+1), make([]int, kept), one, impl.ErrFull)
		noFix(t, longRules(999999999), make([]int, kept), one, impl.ErrFull)
	}
	b := plain("ab", "S", "S=aaaaaab")
	fixed(t, b, "", prices("96", "11"), impl.MaxCost, "iaiaiaiaiaiaib", "aaaaaab")
	noFix(t, b, nil, prices("97", "11"), impl.ErrFull)
	fixed(t, b, "b", prices("97", "11"), 54, "iaiaiaiaiaiakb", "aaaaaab")
	// All is deleted.
	b = plain("ab", "S", "S=")
	fixed(t, b, "aaaaaaaaaa", prices("11", "67"), impl.MaxCost, "dadadadadadadadadada", "")
	noFix(t, b, lettersOf("aaaaaaaaab"), prices("11", "67"), impl.ErrFull)
	noFix(t, b, lettersOf("bbbbbbbbbb"), prices("11", "69"), impl.ErrFull)
	// Some is deleted, and some put in.
	b = plain("abc", "S", "S=bc")
	fixed(t, b, "aaaaaaaaaa", prices("155", "511"), impl.MaxCost, "dadadadadadadadadadaibic", "bc")
	noFix(t, b, lettersOf("aaaaaaaaaa"), prices("156", "511"), impl.ErrFull)
	// One way is too dear, and another is not.
	b = plain("ab", "SA", "S=AAAAAAA", "S=AAAAAAbbbbbb", "A=aaaaaaaaaa", "A=aaaaaaaaab")
	want := impl.Fix{Cost: impl.MaxCost, Word: lettersOf("aaaaaaaaaaaaaaaaaaaaaaaaaaaaaaaaaaaaaaaaaaaaaaaaaaaaaaaaaaaaaaaaaaaaaa")}
	want.Edits = slices.Concat(allOf(impl.EdKeep, 0, 10), allOf(impl.EdInsert, 0, 60))
	wantFix(t, b, make([]int, 10), prices("12", "11"), want, impl.OK)
	noFix(t, b, make([]int, 9), prices("12", "11"), impl.ErrFull)
	noFix(t, b, []int{1}, prices("12", "11"), impl.ErrFull)
}

func TestLongestWordsToRepair(t *testing.T) {
	b := nestedPairs()
	ones := prices("11", "11")
	fixed(t, b, "aaaaabbbbb", ones, 0, "kakakakakakbkbkbkbkb", "aaaaabbbbb")
	fixed(t, b, "bbbbbaaaaa", ones, 10, "dbdbdbdbdbkakakakakaibibibibib", "aaaaabbbbb")
	fixed(t, b, "aaaaaaaaaa", ones, 10, "kakakakakakakakakaka"+"ibibibibibibibibibib", "aaaaaaaaaabbbbbbbbbb")
	noFix(t, b, lettersOf("aaaaabbbbbb"), ones, impl.ErrBad)
	noFix(t, b, lettersOf("aaaaaabbbbb"), ones, impl.ErrBad)
	noFix(t, b, make([]int, impl.MaxWord), ones, impl.ErrBad)
}

func TestPricesThatAreNone(t *testing.T) {
	b := nestedPairs()
	fixed(t, b, "b", prices("11", "11"), 1, "db", "")
	fixed(t, b, "b", prices("99", "99"), impl.MaxPrice, "db", "")
	fixed(t, b, "b", prices("19", "99"), 1, "iakb", "ab")
	fixed(t, b, "b", prices("91", "91"), 1, "db", "")
	for _, price := range []int{0, impl.MaxPrice + 1, -1, math.MinInt, math.MaxInt} {
		for place := range 2 {
			wrong := []int{1, 1}
			wrong[place] = price
			for _, word := range [][]int{nil, {0}, {1}, {0, 1}} {
				noFix(t, b, word, impl.Costs{Ins: wrong, Del: []int{1, 1}}, impl.ErrBad)
				noFix(t, b, word, impl.Costs{Ins: []int{1, 1}, Del: wrong}, impl.ErrBad)
			}
		}
	}
	for _, wrong := range [][]int{nil, {1}, {1, 1, 1}, {1, 1, 0}} {
		for _, word := range [][]int{nil, {0}, {1}, {0, 1}} {
			noFix(t, b, word, impl.Costs{Ins: wrong, Del: []int{1, 1}}, impl.ErrBad)
			noFix(t, b, word, impl.Costs{Ins: []int{1, 1}, Del: wrong}, impl.ErrBad)
			noFix(t, b, word, impl.Costs{Ins: wrong, Del: wrong}, impl.ErrBad)
		}
	}
}

func TestRepairsOfWrongInputs(t *testing.T) {
	b := nestedPairs()
	ones := prices("11", "11")
	for _, term := range []int{-1, 2, 3, math.MinInt, math.MaxInt} {
		noFix(t, b, []int{term}, ones, impl.ErrBad)
		noFix(t, b, []int{0, 1, term}, ones, impl.ErrBad)
		// The start would make nothing, or what is too dear.
		noFix(t, plain("ab", "S"), []int{term}, ones, impl.ErrBad)
		noFix(t, plain("ab", "S", "S=aaaaaaaaaaaa"), []int{term}, prices("91", "11"), impl.ErrBad)
	}
	noFix(t, plain("ab", "S", "S=aaaaaaaaaaaa"), nil, prices("91", "11"), impl.ErrFull)
	noFix(t, plain("ab", "S", "S=aaaaaaaaaaaa"), nil, prices("91", "10"), impl.ErrBad)
	noFix(t, plain("ab", "S", "S=aaaaaaaaaaaS"), nil, prices("91", "11"), impl.ErrNone)
	noFix(t, impl.Bnf{}, nil, impl.Costs{}, impl.ErrBad)
	for i, spoil := range []func(b *impl.Bnf){
		func(b *impl.Bnf) { b.Nons = nil },
		func(b *impl.Bnf) { b.Own = 0 },
		func(b *impl.Bnf) { b.Own = 2 },
		func(b *impl.Bnf) { b.Prods[0].Left = 0 },
		func(b *impl.Bnf) { b.Prods[0].Left = 3 },
		func(b *impl.Bnf) { b.Prods[0].Right = []int{3} },
		func(b *impl.Bnf) { b.Prods[0].Right = []int{-1} },
		func(b *impl.Bnf) { b.Prods[1].Level = 1 },
		func(b *impl.Bnf) { b.Terms[1].Name = "a" },
		func(b *impl.Bnf) { b.Prods[1].Right = make([]int, impl.MaxRight+1) },
		func(b *impl.Bnf) { b.Prods[1].Label = "1" },
	} {
		wrong := nestedPairs()
		spoil(&wrong)
		for _, word := range [][]int{nil, {0}, {0, 1}} {
			if fix, code := impl.Repair(wrong, word, ones); !sameFix(fix, impl.Fix{}) || code != impl.ErrBad {
				t.Error(i, fix, code)
			}
		}
	}
}

// As many terminals, Nons and Prods as there can be, with Rights as long as they can be: all parts of the word are gone through.
func TestRepairsOfGreatRules(t *testing.T) {
	r := rand.New(rand.NewSource(86))
	for _, nons := range []int{3, 20, impl.MaxNons} {
		b := plain(manyLetters(impl.MaxTerms), "S")
		manyNons(&b, nons)
		long, first := impl.MaxTerms+1, impl.MaxTerms+2
		b.Prods = append(b.Prods,
			impl.Prod{Left: impl.MaxTerms, Right: slices.Repeat([]int{long}, impl.MaxRight)},
			impl.Prod{Left: long, Right: make([]int, impl.MaxRight)})
		for len(b.Prods) < impl.MaxProds {
			p := impl.Prod{Left: first + r.Intn(nons-2)}
			for range oneOf(r, 0, 1, 2, impl.MaxRight, impl.MaxRight, impl.MaxRight) {
				p.Right = append(p.Right, oneOf(r, r.Intn(impl.MaxTerms), first+r.Intn(nons-2), first+r.Intn(nons-2)))
			}
			b.Prods = append(b.Prods, p)
		}
		word := someWord(r, impl.MaxTerms, 0)
		for range impl.MaxRepair {
			word = append(word, r.Intn(impl.MaxTerms))
		}
		noFix(t, b, word, onePrice(b, 1), impl.ErrFull)
		b.Prods[1].Right = []int{word[3]}
		fix, code := impl.Repair(b, word, onePrice(b, 1))
		if len(fix.Word) != impl.MaxRight || code != impl.OK {
			t.Error(fix, code)
		}
	}
}

func TestRepairsKeepAndShareNothing(t *testing.T) {
	r := rand.New(rand.NewSource(87))
	roomyList := func(list []int) []int { return append(append(make([]int, 0, 20), list...), 77)[:len(list)] }
	whole := func(list []int) []int { return slices.Clone(list[:cap(list)]) }
	for _, small := range manyRules(1500) {
		b := roomyRules(small)
		word, c := roomyList(someWord(r, len(b.Terms), 6)), somePrices(r, len(b.Terms), 3)
		c = impl.Costs{Ins: roomyList(c.Ins), Del: roomyList(c.Del)}
		kept, keptWord, keptIns, keptDel := copyRules(b), whole(word), whole(c.Ins), whole(c.Del)
		fix, code := impl.Repair(b, word, c)
		want := impl.Fix{Cost: fix.Cost, Word: slices.Clone(fix.Word), Edits: slices.Clone(fix.Edits)}
		edits := append(slices.Clone(want.Edits), impl.Edit{Kind: 9, Term: 9})
		made, _ := impl.Apply(word, edits[:len(edits)-1])
		spoilLists(fix.Word, made)
		all := fix.Edits[:cap(fix.Edits)]
		for i := range all {
			all[i] = impl.Edit{Kind: -9, Term: -9}
		}
		wantFix(t, b, word, c, want, code)
		if !sameBnf(copyRules(b), kept) || !slices.Equal(whole(word), keptWord) || !slices.Equal(whole(c.Ins), keptIns) || !slices.Equal(whole(c.Del), keptDel) {
			t.Fatalf("%s: written into", shownRules(b))
		}
		if !slices.Equal(edits[:len(want.Edits)], want.Edits) || edits[len(want.Edits)] != (impl.Edit{Kind: 9, Term: 9}) {
			t.Fatalf("%s: %v: edits written into", shownRules(b), word)
		}
	}
}

func TestEditsThatAreApplied(t *testing.T) {
	wantApplied(t, nil, nil, nil, impl.OK)
	wantApplied(t, []int{}, []impl.Edit{}, nil, impl.OK)
	wantApplied(t, []int{0, 1, 2}, editsOf("kakbkc"), []int{0, 1, 2}, impl.OK)
	wantApplied(t, []int{0, 1, 2}, editsOf("dadbdc"), nil, impl.OK)
	wantApplied(t, nil, editsOf("iciaic"), []int{2, 0, 2}, impl.OK)
	wantApplied(t, []int{0, 1}, editsOf("ibkaicdbia"), []int{1, 0, 2, 0}, impl.OK)
	// Terms are any that are not below 0.
	wantApplied(t, []int{math.MaxInt, 1000}, []impl.Edit{{Kind: impl.EdInsert, Term: 777}, {Kind: impl.EdKeep, Term: math.MaxInt}, {Kind: impl.EdDelete, Term: 1000}, {Kind: impl.EdInsert, Term: math.MaxInt}}, []int{777, math.MaxInt, math.MaxInt}, impl.OK)
	long := make([]int, 100000)
	wantApplied(t, long, allOf(impl.EdKeep, 0, len(long)), long, impl.OK)
	wantApplied(t, nil, allOf(impl.EdInsert, 0, len(long)), long, impl.OK)
	wantApplied(t, long, allOf(impl.EdDelete, 0, len(long)), nil, impl.OK)
}

func TestEditsThatAreNone(t *testing.T) {
	for _, x := range []struct {
		word  string
		edits []impl.Edit
	}{
		{"b", nil},
		{"b", editsOf("ia")},
		{"bb", editsOf("kb")},
		{"bb", editsOf("dbia")},
		{"", editsOf("kb")},
		{"", editsOf("db")},
		{"b", editsOf("kbkb")},
		{"b", editsOf("dbdb")},
		{"b", editsOf("kbiaka")},
		{"b", editsOf("ka")},
		{"b", editsOf("da")},
		{"bc", editsOf("kckb")},
		{"bc", editsOf("kcdb")},
		{"b", []impl.Edit{{Kind: 0, Term: 1}}},
		{"b", []impl.Edit{{Kind: 4, Term: 1}}},
		{"b", []impl.Edit{{Kind: -1, Term: 1}}},
		{"b", []impl.Edit{{Kind: math.MaxInt, Term: 1}}},
		{"b", []impl.Edit{{Kind: math.MinInt, Term: 1}}},
		{"b", []impl.Edit{{Kind: impl.EdKeep, Term: 1}, {}}},
		{"b", []impl.Edit{{}, {Kind: impl.EdKeep, Term: 1}}},
		{"", []impl.Edit{{}}},
		{"b", []impl.Edit{{Kind: impl.EdKeep, Term: -1}}},
		{"b", []impl.Edit{{Kind: impl.EdInsert, Term: -1}, {Kind: impl.EdKeep, Term: 1}}},
		{"b", []impl.Edit{{Kind: impl.EdKeep, Term: 1}, {Kind: impl.EdInsert, Term: -1}}},
		{"", []impl.Edit{{Kind: impl.EdInsert, Term: math.MinInt}}},
	} {
		wantApplied(t, lettersOf(x.word), x.edits, nil, impl.ErrForm)
	}
	// A terminal of the word may be below 0, but no Term.
	wantApplied(t, []int{-1}, []impl.Edit{{Kind: impl.EdKeep, Term: -1}}, nil, impl.ErrForm)
	wantApplied(t, []int{-1}, []impl.Edit{{Kind: impl.EdDelete, Term: -1}}, nil, impl.ErrForm)
	wantApplied(t, []int{math.MinInt}, []impl.Edit{{Kind: impl.EdDelete, Term: math.MinInt}}, nil, impl.ErrForm)
}

// Whatever edits there are: the terminals kept and deleted are the word, those kept and put in are what is made.
func TestAllShortListsOfEdits(t *testing.T) {
	var each []impl.Edit
	for kind := range 5 {
		for term := -1; term < 2; term++ {
			each = append(each, impl.Edit{Kind: kind, Term: term})
		}
	}
	codes := map[int]int{}
	for _, edits := range lists(each, 3) {
		var passed, made []int
		wrong := false
		for _, e := range edits {
			wrong = wrong || e.Term < 0 || e.Kind < impl.EdKeep || e.Kind > impl.EdInsert
			if e.Kind != impl.EdInsert {
				passed = append(passed, e.Term)
			}
			if e.Kind != impl.EdDelete {
				made = append(made, e.Term)
			}
		}
		for _, word := range lists([]int{-1, 0, 1}, 3) {
			want, code := made, impl.OK
			if wrong || !slices.Equal(passed, word) {
				want, code = nil, impl.ErrForm
			}
			codes[code]++
			wantApplied(t, word, edits, want, code)
		}
	}
	if codes[impl.OK] < 200 || codes[impl.ErrForm] < 1000 {
		t.Error(codes)
	}
}
