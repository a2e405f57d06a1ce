package tests

import (
	"math"
	"math/rand"
	"slices"
	"strings"
	"testing"

	"loop.example/g00037/impl"
)

// Promise 9: what the forest has, and what is picked, are all derivations and no other.
func TestForestsAndPicksAreAllDerivations(t *testing.T) {
	many := map[int]int{}
	for i, b := range manyRules(5000) {
		if isCyclic(b) {
			continue
		}
		most := 2 + i%4
		all := growths(b, most, 1500)
		if all == nil {
			continue
		}
		for _, word := range allWords(len(b.Terms), most) {
			some := all[len(b.Terms)][word]
			slices.SortFunc(some, (*growth).compare)
			asAllDerivations(t, b, termList(word), some)
			many[min(len(some), 3)]++
		}
	}
	if many[0] < 1000 || many[1] < 1000 || many[2] < 300 || many[3] < 300 {
		t.Error(many)
	}
}

func asAllDerivations(t *testing.T, b impl.Bnf, word []int, all []*growth) {
	t.Helper()
	want := forestBy(b, all)
	if slices.ContainsFunc(want, func(n impl.FNode) bool { return len(n.Alts) > impl.MaxAlts }) {
		noForest(t, b, word, impl.ErrFull)
		return
	}
	if nodes := mustForest(t, b, word); !sameForest(nodes, want) {
		t.Fatalf("%s: Forest of %v:\n%v\n%v", shownRules(b), word, nodes, want)
	}
	for k, one := range all {
		list := one.numbers()
		wantPick(t, b, word, k, list, impl.OK)
		wantYield(t, b, 0, list, word, impl.OK)
	}
	wantCount(t, b, 0, word, len(all))
	for _, k := range []int{-1, len(all), len(all) + 1, math.MinInt, math.MaxInt} {
		wantPick(t, b, word, k, nil, impl.ErrPlace)
	}
	if t.Failed() {
		t.FailNow()
	}
}

func TestForestsByHand(t *testing.T) {
	// A is empty in front, behind, or twice.
	b := plain("a", "SA", "S=AA", "A=a", "A=")
	want := []impl.FNode{
		{Non: 0, From: 0, To: 1, Alts: []impl.FAlt{{Prod: 0, Kids: []int{1, 2}}, {Prod: 0, Kids: []int{2, 3}}}},
		{Non: 1, From: 0, To: 0, Alts: []impl.FAlt{{Prod: 2}}},
		{Non: 1, From: 0, To: 1, Alts: []impl.FAlt{{Prod: 1, Kids: []int{-1}}}},
		{Non: 1, From: 1, To: 1, Alts: []impl.FAlt{{Prod: 2}}},
	}
	if nodes := mustForest(t, b, []int{0}); !sameForest(nodes, want) {
		t.Error(nodes)
	}
	wantPick(t, b, []int{0}, 0, []int{0, 2, 1}, impl.OK)
	wantPick(t, b, []int{0}, 1, []int{0, 1, 2}, impl.OK)
	// The empty word.
	want = []impl.FNode{{Non: 0, Alts: []impl.FAlt{{Prod: 0, Kids: []int{1, 1}}}}, {Non: 1, Alts: []impl.FAlt{{Prod: 2}}}}
	if nodes := mustForest(t, b, nil); !sameForest(nodes, want) {
		t.Error(nodes)
	}
	wantPick(t, b, nil, 0, []int{0, 2, 2}, impl.OK)
	wantPick(t, b, nil, 1, nil, impl.ErrPlace)
	// No derivation: neither of the word nor of any.
	for _, b := range []impl.Bnf{b, plain("a", "S"), plain("a", "S", "S=aS")} {
		if nodes := mustForest(t, b, []int{0, 0, 0}); len(nodes) != 0 {
			t.Error(nodes)
		}
		wantPick(t, b, []int{0, 0, 0}, 0, nil, impl.ErrPlace)
	}
	// The last one's derivations change fastest.
	b = plain("ab", "SAB", "S=AB", "A=a", "A=a", "B=b", "B=b", "B=b")
	for k, want := range [][]int{{0, 1, 3}, {0, 1, 4}, {0, 1, 5}, {0, 2, 3}, {0, 2, 4}, {0, 2, 5}} {
		wantPick(t, b, []int{0, 1}, k, want, impl.OK)
	}
	wantPick(t, b, []int{0, 1}, 6, nil, impl.ErrPlace)
}

// splitRules have a start whose node has as many Alts as the word has places, the one behind it too.
func splitRules() impl.Bnf { return plain("a", "SA", "S=AA", "A=Aa", "A=") }

func TestAsManyAltsAsANodeMayHave(t *testing.T) {
	word := make([]int, impl.MaxAlts)
	b := splitRules()
	nodes := mustForest(t, b, word[1:])
	if len(nodes[0].Alts) != impl.MaxAlts {
		t.Fatal(len(nodes[0].Alts))
	}
	wantPick(t, b, word[1:], impl.MaxAlts, nil, impl.ErrPlace)
	mustPick(t, b, word[1:], impl.MaxAlts-1)
	noForest(t, b, word, impl.ErrFull)
	// By Prods, of a node that is not the first.
	for more := range 2 {
		b := plain("ab", "SA", append([]string{"S=bAb"}, slices.Repeat([]string{"A=a"}, impl.MaxAlts+more)...)...)
		if more == 0 {
			if nodes := mustForest(t, b, []int{1, 0, 1}); len(nodes) != 2 || len(nodes[1].Alts) != impl.MaxAlts {
				t.Error(nodes)
			}
			wantPick(t, b, []int{1, 0, 1}, impl.MaxAlts-1, []int{0, impl.MaxAlts}, impl.OK)
			continue
		}
		noForest(t, b, []int{1, 0, 1}, impl.ErrFull)
		// Where it is part of no derivation of the word, it is none of the forest.
		if nodes := mustForest(t, b, []int{1, 0}); len(nodes) != 0 {
			t.Error(nodes)
		}
		wantPick(t, b, []int{1, 0}, 0, nil, impl.ErrPlace)
	}
}

// nodeRules have 38 * 39 nodes for 38 terminals, and as many above them as are asked for.
func nodeRules(above int) impl.Bnf {
	names := "S" + manyLetters(60)[1:above] + "XY"
	b := plain("a", names, "X=XX", "X=a", "Y=YY", "Y=a")
	for i := 1; i < above; i++ {
		b.Prods = append(b.Prods, impl.Prod{Left: i, Right: []int{i + 1}})
	}
	b.Prods = append(b.Prods, impl.Prod{Left: above, Right: []int{above + 1}}, impl.Prod{Left: above, Right: []int{above + 2}})
	return b
}

func TestAsManyNodesAsThereMayBe(t *testing.T) {
	word := make([]int, 38)
	above := impl.MaxForest - 38*39
	b := nodeRules(above)
	nodes := mustForest(t, b, word)
	if len(nodes) != impl.MaxForest {
		t.Fatal(len(nodes))
	}
	list := mustPick(t, b, word, impl.MaxCount-1)
	wantYield(t, b, 0, list, word, impl.OK)
	noForest(t, nodeRules(above+1), word, impl.ErrFull)
	if nodes := mustForest(t, nodeRules(above+1), word[1:]); len(nodes) != above+1+37*38 {
		t.Error(len(nodes))
	}
}

func TestLongestWordsOfForests(t *testing.T) {
	word := make([]int, impl.MaxWord+1)
	b := plain("a", "S", "S=SS", "S=a")
	if nodes := mustForest(t, b, word[1:]); len(nodes) != impl.MaxWord*(impl.MaxWord+1)/2 {
		t.Error(len(nodes))
	}
	noForest(t, b, word, impl.ErrBad)
	b = plain("a", "S", "S=aS", "S=")
	want := make([]int, impl.MaxWord+1)
	want[impl.MaxWord] = 1
	wantPick(t, b, word[1:], 0, want, impl.OK)
	noForest(t, b, word, impl.ErrBad)
}

// catalan is how many ways there are to pair n terminals, exactly.
func catalan(n int) int {
	ways := []int{0, 1}
	for len(ways) <= n {
		sum := 0
		for i := 1; i < len(ways); i++ {
			sum += ways[i] * ways[len(ways)-i]
		}
		ways = append(ways, sum)
	}
	return ways[n]
}

// paired is the k-th derivation of n terminals by S = S S | a.
func paired(n int, k int) []int {
	if n == 1 {
		return []int{1}
	}
	for first := 1; ; first++ {
		others := catalan(n - first)
		if ways := catalan(first) * others; k >= ways {
			k -= ways
			continue
		}
		return slices.Concat([]int{0}, paired(first, k/others), paired(n-first, k%others))
	}
}

func TestPicksOfVeryMany(t *testing.T) {
	b := plain("a", "S", "S=SS", "S=a")
	for n := 1; n < 30; n++ {
		word := make([]int, n)
		all := catalan(n)
		for _, k := range []int{0, all / 3, all / 2, all - 1} {
			if k < impl.MaxCount {
				wantPick(t, b, word, k, paired(n, k), impl.OK)
			}
		}
		if all < impl.MaxCount {
			wantPick(t, b, word, all, nil, impl.ErrPlace)
			continue
		}
		wantPick(t, b, word, impl.MaxCount-1, paired(n, impl.MaxCount-1), impl.OK)
		wantPick(t, b, word, 765432, paired(n, 765432), impl.OK)
		wantPick(t, b, word, impl.MaxCount, nil, impl.ErrPlace)
	}
}

func TestPicksUpToTheHighestCount(t *testing.T) {
	// Six of ten ways are just as many as are counted; one more is not.
	ten := slices.Repeat([]string{"A=a"}, 10)
	for _, prods := range [][]string{{"S=AAAAAA"}, {"S=AAAAAA", "S=AAAAAa"}} {
		b := plain("a", "SA", append(prods, ten...)...)
		word := make([]int, 6)
		first := len(prods)
		wantPick(t, b, word, impl.MaxCount-1, []int{0, first + 9, first + 9, first + 9, first + 9, first + 9, first + 9}, impl.OK)
		wantPick(t, b, word, 123456, []int{0, first + 1, first + 2, first + 3, first + 4, first + 5, first + 6}, impl.OK)
		wantPick(t, b, word, impl.MaxCount, nil, impl.ErrPlace)
	}
	// A whole part that has more ways than are counted stands ahead of another one.
	b := plain("ab", "SAB", append([]string{"S=BA", "B=AAAAAAA"}, ten...)...)
	wantPick(t, b, make([]int, 8), impl.MaxCount-1, []int{0, 1, 2, 2, 11, 11, 11, 11, 11, 11}, impl.OK)
	b = plain("ab", "SAB", append([]string{"S=AB", "B=AAAAAAA"}, ten...)...)
	wantPick(t, b, make([]int, 8), 1234, []int{0, 2, 1, 2, 2, 2, 3, 4, 5, 6}, impl.OK)
	// 13 of 32 ways are more than a number of 64 bits can be: the last one picked has 30, 16, 17 and 31 of these at its end.
	b = plain("ab", "SAB", append([]string{"S=AAAAAAAAAAAB", "B=AA"}, slices.Repeat([]string{"A=a"}, 32)...)...)
	wantPick(t, b, make([]int, 13), impl.MaxCount-1, []int{0, 2, 2, 2, 2, 2, 2, 2, 2, 2, 32, 18, 1, 19, 33}, impl.OK)
}

// bigEmpty has one derivation of the empty word; each of its Nons makes it of the next one, this many times.
func bigEmpty(nons int, times int) impl.Bnf {
	b := impl.Bnf{Nons: strings.Split("S"+manyLetters(60)[:nons-1], ""), Own: 1}
	for i := range nons - 1 {
		b.Prods = append(b.Prods, impl.Prod{Left: i, Right: slices.Repeat([]int{i + 1}, times)})
	}
	b.Prods = append(b.Prods, impl.Prod{Left: nons - 1})
	return b
}

// Promise 9: how long a derivation is does not matter.
func TestPicksThatAreLongerThanAWordIs(t *testing.T) {
	for _, x := range []struct{ nons, times, length int }{
		{5, 12, 22621}, {7, 12, 3257437}, {22, 2, 4194303}, {23, 2, 8388607}, {24, 2, 16777215}, {15, 3, 7174453}, {60, 1, 60}, {2, 12, 13},
	} {
		list := mustPick(t, bigEmpty(x.nons, x.times), nil, 0)
		if len(list) != x.length || !countsDown(list, x.nons-1, x.times) {
			t.Error(x, len(list))
		}
	}
	// There is no room for the numbers of this one; its forest is small.
	b := bigEmpty(40, 12)
	if nodes := mustForest(t, b, nil); len(nodes) != 40 {
		t.Error(len(nodes))
	}
	wantPick(t, b, nil, 0, nil, impl.ErrFull)
	wantPick(t, b, nil, 1, nil, impl.ErrPlace)
}

// countsDown tells whether a list is the derivation by bigEmpty whose last Prod is this one.
func countsDown(list []int, last int, times int) bool {
	left := []int{1}
	for _, prod := range list {
		for len(left) > 0 && left[len(left)-1] == 0 {
			left = left[:len(left)-1]
		}
		if len(left) == 0 || prod != len(left)-1 {
			return false
		}
		left[prod]--
		if prod < last {
			left = append(left, times)
		}
	}
	return !slices.ContainsFunc(left, func(n int) bool { return n > 0 })
}

// Each of the last 4096 symbols makes the empty word in two ways: the numbers of the last 20 change.
func TestLongPicksOfMany(t *testing.T) {
	b := bigEmpty(13, 2)
	b.Prods = append(b.Prods, impl.Prod{Left: 12})
	first := mustPick(t, b, nil, 0)
	if len(first) != 8191 || !countsDown(first, 12, 2) {
		t.Fatal(len(first))
	}
	for _, k := range []int{0, 1, 2, 3, 4, 1023, 1024, 98765, 524288, impl.MaxCount - 1} {
		want := slices.Clone(first)
		digits := k
		for at, prod := range slices.Backward(want) {
			if prod == 12 {
				want[at] += digits % 2
				digits /= 2
			}
		}
		wantPick(t, b, nil, k, want, impl.OK)
	}
	wantPick(t, b, nil, impl.MaxCount, nil, impl.ErrPlace)
}

func TestForestsOfWrongInputs(t *testing.T) {
	b := nest()
	for _, term := range []int{-1, 3, 4, math.MinInt, math.MaxInt} {
		noForest(t, b, []int{term}, impl.ErrBad)
		noForest(t, b, []int{2, 2, term}, impl.ErrBad)
	}
	noForest(t, impl.Bnf{}, nil, impl.ErrBad)
	wrong := nest()
	wrong.Prods[0].Left = 2
	noForest(t, wrong, []int{2}, impl.ErrBad)
	// Cyclic rules, also where it is another Non; what is wrong otherwise is told first.
	loop := plain("ab", "SA", "S=a", "A=A")
	noForest(t, loop, []int{0}, impl.ErrLoop)
	noForest(t, loop, []int{2}, impl.ErrBad)
	noForest(t, loop, make([]int, impl.MaxWord+1), impl.ErrBad)
	noForest(t, plain("a", "S", slices.Concat([]string{"S=S"}, slices.Repeat([]string{"S=a"}, impl.MaxAlts+1))...), []int{0}, impl.ErrLoop)
}

func TestForestsKeepAndShareNothing(t *testing.T) {
	r := rand.New(rand.NewSource(61))
	for _, small := range manyRules(600) {
		b := roomyRules(small)
		word := append(make([]int, 0, 20), someWord(r, len(b.Terms), 4)...)
		kept, keptWord := copyRules(b), slices.Clone(word[:cap(word)])
		nodes, code := impl.Forest(b, word)
		again, _ := impl.Forest(b, word)
		for n := range nodes {
			for k := range nodes[n].Alts {
				spoilLists(nodes[n].Alts[k].Kids)
				nodes[n].Alts[k].Kids = slices.Clone(again[n].Alts[k].Kids)
			}
			if !sameForest(nodes, again) {
				t.Fatalf("%s: Kids are shared", shownRules(b))
			}
			alts := nodes[n].Alts[:cap(nodes[n].Alts)]
			clear(alts)
			nodes[n].Alts = slices.Clone(again[n].Alts)
			if !sameForest(nodes, again) {
				t.Fatalf("%s: Alts are shared", shownRules(b))
			}
		}
		list, pickCode := impl.Pick(b, word, 0)
		want := slices.Clone(list)
		spoilLists(list)
		wantPick(t, b, word, 0, want, pickCode)
		if nodes, code2 := impl.Forest(b, word); !sameForest(nodes, again) || code2 != code {
			t.Fatalf("%s: Forest of %v changed", shownRules(b), word)
		}
		if !sameBnf(copyRules(b), kept) || !slices.Equal(word[:cap(word)], keptWord) {
			t.Fatalf("%s: written into", shownRules(b))
		}
	}
}

func TestYieldsOfSpoiltDerivations(t *testing.T) {
	r := rand.New(rand.NewSource(62))
	right, wrong := 0, 0
	for _, b := range manyRules(2500) {
		for range 30 {
			non := r.Intn(len(b.Nons))
			list := []int{}
			for n := r.Intn(5); n > 0; n-- {
				list = append(list, r.Intn(len(b.Prods)+2)-1)
			}
			word, isOne := makes(b, len(b.Terms)+non, list)
			if isOne {
				wantYield(t, b, non, list, word, impl.OK)
				right++
				continue
			}
			wantYield(t, b, non, list, nil, impl.ErrText)
			wantGood(t, b, non, list, false, impl.ErrText)
			wrong++
		}
	}
	if right < 500 || wrong < 5000 {
		t.Error(right, wrong)
	}
}

// makes puts a Right in the place of the first Non, as long as there is one; with the last of these the numbers are to end.
func makes(b impl.Bnf, symbol int, list []int) ([]int, bool) {
	waiting := []int{symbol}
	var word []int
	for len(waiting) > 0 {
		next := waiting[0]
		waiting = waiting[1:]
		if next < len(b.Terms) {
			word = append(word, next)
			continue
		}
		if len(list) == 0 || list[0] < 0 || list[0] >= len(b.Prods) || b.Prods[list[0]].Left != next {
			return nil, false
		}
		waiting = slices.Concat(b.Prods[list[0]].Right, waiting)
		list = list[1:]
	}
	return word, len(list) == 0
}

func TestYieldsByHand(t *testing.T) {
	b := plain("abc", "SA", "S=aSb", "S=c", "A=SAS", "A=")
	wantYield(t, b, 0, []int{0, 0, 1}, []int{0, 0, 2, 1, 1}, impl.OK)
	wantYield(t, b, 1, []int{3}, nil, impl.OK)
	wantYield(t, b, 1, []int{2, 1, 2, 0, 1, 3, 1, 1}, []int{2, 0, 2, 1, 2, 2}, impl.OK)
	for _, list := range [][]int{
		nil, {}, {0}, {0, 0}, {1, 1}, {0, 1, 1}, {3}, {2, 1, 3, 1}, {0, 3}, {4}, {-1}, {0, 4}, {0, -1},
		{math.MinInt}, {math.MaxInt}, {0, math.MaxInt},
	} {
		wantYield(t, b, 0, list, nil, impl.ErrText)
		wantGood(t, b, 0, list, false, impl.ErrText)
	}
	wantYield(t, b, 1, []int{1}, nil, impl.ErrText)
	wantYield(t, plain("a", "S"), 0, nil, nil, impl.ErrText)
	wantYield(t, plain("a", "S"), 0, []int{0}, nil, impl.ErrText)
	for _, non := range []int{-1, 2, 3, 4, math.MinInt, math.MaxInt} {
		wantYield(t, b, non, []int{1}, nil, impl.ErrPlace)
		wantYield(t, b, non, nil, nil, impl.ErrPlace)
		wantGood(t, b, non, []int{1}, false, impl.ErrPlace)
		wantYield(t, impl.Bnf{}, non, []int{1}, nil, impl.ErrBad)
		wantYield(t, b, non, make([]int, impl.MaxDeriv+1), nil, impl.ErrBad)
		wantGood(t, b, non, make([]int, impl.MaxDeriv+1), false, impl.ErrBad)
	}
	wrong := plain("abc", "SA", "S=aSb", "S=c")
	wrong.Prods[1].Level = 1
	wantYield(t, wrong, 0, []int{1}, nil, impl.ErrBad)
	wantGood(t, wrong, 0, []int{1}, false, impl.ErrBad)
}

func TestLongestDerivations(t *testing.T) {
	// Cyclic rules have derivations, too.
	b := plain("a", "S", "S=S", "S=a")
	list := make([]int, impl.MaxDeriv+1)
	list[impl.MaxDeriv] = 1
	wantYield(t, b, 0, list[1:], []int{0}, impl.OK)
	wantGood(t, b, 0, list[1:], true, impl.OK)
	wantYield(t, b, 0, list, nil, impl.ErrBad)
	wantGood(t, b, 0, list, false, impl.ErrBad)
	if _, code := impl.TreeOf(b, list[1:], []impl.Word{{Name: "a"}}); code != impl.ErrFull {
		t.Error(code)
	}
	if _, code := impl.TreeOf(b, list, []impl.Word{{Name: "a"}}); code != impl.ErrBad {
		t.Error(code)
	}
	// Ones that go on, and ones that are too long in the end.
	wantYield(t, b, 0, make([]int, impl.MaxDeriv), nil, impl.ErrText)
}

func TestLongestYields(t *testing.T) {
	b := plain("a", "SA", "S=aS", "S=", "A=aaaaaaaaaaaa")
	list := make([]int, impl.MaxParse+2)
	list[impl.MaxParse+1] = 1
	wantYield(t, b, 0, list[1:], make([]int, impl.MaxParse), impl.OK)
	wantYield(t, b, 0, list, nil, impl.ErrFull)
	wantGood(t, b, 0, list, true, impl.OK)
	// What is no derivation is told first.
	wantYield(t, b, 0, list[:impl.MaxParse+1], nil, impl.ErrText)
	wantYield(t, b, 0, append(slices.Clone(list), 1), nil, impl.ErrText)
	// A very long one.
	long := plain("a", "S", "S=aaaaaaaaaaaS", "S=")
	list = make([]int, impl.MaxDeriv)
	list[impl.MaxDeriv-1] = 1
	wantYield(t, long, 0, list, nil, impl.ErrFull)
}

func TestDerivationsAreNotKept(t *testing.T) {
	b := roomyRules(nest())
	kept := copyRules(b)
	list := append(make([]int, 0, 9), 0, 0, 1)
	was := slices.Clone(list[:9])
	word, _ := impl.Yield(b, 0, list)
	spoilLists(word)
	wantYield(t, b, 0, list, []int{0, 0, 2, 1, 1}, impl.OK)
	wantGood(t, b, 0, list, true, impl.OK)
	if !slices.Equal(list[:9], was) || !sameBnf(copyRules(b), kept) {
		t.Error("written into")
	}
}
