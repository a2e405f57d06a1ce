package tests

import (
	"math"
	"slices"
	"strconv"
	"testing"

	"loop.example/g00037/impl"
)

func TestFactsOfManyRules(t *testing.T) {
	for _, b := range manyRules(6000) {
		if f, want := mustFacts(t, b), factsBy(b); !sameFacts(f, want) {
			t.Fatalf("%s:\n%v\n%v", shownRules(b), f, want)
		}
		if cyclic, code := impl.Cyclic(b); cyclic != isCyclic(b) || code != impl.OK {
			t.Fatalf("%s: Cyclic: %v, code %d", shownRules(b), cyclic, code)
		}
	}
}

func TestFactsByHand(t *testing.T) {
	for name, test := range map[string]struct {
		rules impl.Bnf
		want  impl.Facts
	}{
		"no prods": {plain("ab", "SA"), impl.Facts{
			Null: []bool{false, false}, Makes: []bool{false, false}, Reached: []bool{true, false}, LeftRec: []bool{false, false},
			Least: []int{-1, -1}, First: [][]int{nil, nil}, Follow: [][]int{{2}, nil}}},
		"no terms": {plain("", "SA", "S=A", "S=SA", "A="), impl.Facts{
			Null: []bool{true, true}, Makes: []bool{true, true}, Reached: []bool{true, true}, LeftRec: []bool{true, false},
			Least: []int{0, 0}, First: [][]int{nil, nil}, Follow: [][]int{{0}, {0}}}},
		"the empty word alone": {plain("a", "SAB", "S=AaB", "A=BB", "B="), impl.Facts{
			Null: []bool{false, true, true}, Makes: []bool{true, true, true}, Reached: []bool{true, true, true}, LeftRec: []bool{false, false, false},
			Least: []int{1, 0, 0}, First: [][]int{{0}, nil, nil}, Follow: [][]int{{1}, {0}, {0, 1}}}},
		// A makes nothing, and still its Prods and the Prods with it count.
		"one that makes nothing": {plain("abc", "SAB", "S=bA", "S=AB", "A=aAc", "B=c"), impl.Facts{
			Null: []bool{false, false, false}, Makes: []bool{false, false, true}, Reached: []bool{true, true, true}, LeftRec: []bool{false, false, false},
			Least: []int{-1, -1, 1}, First: [][]int{{0, 1}, {0}, {2}}, Follow: [][]int{{3}, {2, 3}, {3}}}},
		// B is not reached, and still its Prods count for what stands behind A.
		"one that is not reached": {plain("abc", "SAB", "S=Aa", "A=", "B=Ab", "B=SBc"), impl.Facts{
			Null: []bool{false, true, false}, Makes: []bool{true, true, true}, Reached: []bool{true, true, false}, LeftRec: []bool{false, false, false},
			Least: []int{1, 0, 1}, First: [][]int{{0}, nil, {0, 1}}, Follow: [][]int{{0, 1, 3}, {0, 1}, {2}}}},
		// What stands ahead of S makes the empty word, what stands ahead of A does not.
		"left recursive behind the empty word": {plain("ab", "SAB", "S=BBSa", "S=b", "A=bA", "A=aBA", "B="), impl.Facts{
			Null: []bool{false, false, true}, Makes: []bool{true, false, true}, Reached: []bool{true, false, true}, LeftRec: []bool{true, false, false},
			Least: []int{1, -1, 0}, First: [][]int{{1}, {0, 1}, nil}, Follow: [][]int{{0, 2}, nil, {0, 1}}}},
		"left recursive by way of others": {plain("ab", "SABC", "S=Aa", "A=Bb", "B=Sa", "B=a", "C=aC", "C=S"), impl.Facts{
			Null: []bool{false, false, false, false}, Makes: []bool{true, true, true, true}, Reached: []bool{true, true, true, false}, LeftRec: []bool{true, true, true, false},
			Least: []int{3, 2, 1, 3}, First: [][]int{{0}, {0}, {0}, {0}}, Follow: [][]int{{0, 2}, {0}, {1}, nil}}},
	} {
		if f := mustFacts(t, test.rules); !sameFacts(f, test.want) {
			t.Errorf("%s: %v, and should be %v", name, f, test.want)
		}
	}
}

func TestCyclicByHand(t *testing.T) {
	for name, test := range map[string]struct {
		rules impl.Bnf
		want  bool
	}{
		"no prods":                             {plain("a", "S"), false},
		"a terminal":                           {plain("a", "S", "S=a"), false},
		"itself":                               {plain("a", "S", "S=S"), true},
		"itself, which makes nothing":          {plain("a", "SA", "S=a", "A=A"), true},
		"itself, which is not reached":         {plain("a", "SA", "S=a", "A=A", "A=a"), true},
		"itself with a terminal":               {plain("a", "S", "S=Sa", "S=aS", "S=a"), false},
		"itself twice":                         {plain("a", "S", "S=SS", "S=a"), false},
		"itself twice, and the empty word":     {plain("a", "S", "S=SS", "S="), true},
		"itself among empty words":             {plain("a", "SAB", "S=ABSBA", "S=a", "A=B", "B=", "A=a"), true},
		"itself behind a word":                 {plain("a", "SAB", "S=AS", "S=a", "A=aB", "B="), false},
		"itself ahead of a word":               {plain("a", "SAB", "S=SA", "S=a", "A=Ba", "B="), false},
		"itself beside one that makes nothing": {plain("a", "SA", "S=SA", "S=a"), false},
		"two":                                  {plain("a", "SA", "S=A", "A=S", "A=a"), true},
		"two beside empty words":               {plain("a", "SAB", "S=AB", "A=BBS", "A=a", "B="), true},
		"two, one of them with a terminal":     {plain("a", "SA", "S=A", "A=aS", "A=a"), false},
		"three, not the start":                 {plain("a", "SABC", "S=Aa", "A=B", "B=C", "C=A", "C=a"), true},
		"both make the empty word, one way":    {plain("a", "SAB", "S=AB", "A=B", "B=", "A="), false},
		"both make the empty word, both ways":  {plain("a", "SAB", "S=a", "A=BB", "B=AA", "B="), true},
		"the empty word alone":                 {plain("", "S", "S="), false},
	} {
		if cyclic, code := impl.Cyclic(test.rules); cyclic != test.want || code != impl.OK {
			t.Errorf("%s: %v, code %d", name, cyclic, code)
		}
		code := impl.OK
		if test.want {
			code = impl.ErrLoop
		}
		if _, got := impl.Count(test.rules, 0, nil); got != code {
			t.Errorf("%s: Count: code %d", name, got)
		}
		if _, got := impl.WordsOf(test.rules, 2); got != code {
			t.Errorf("%s: WordsOf: code %d", name, got)
		}
	}
}

func TestLeastUpToTheLongest(t *testing.T) {
	for n, want := range map[int]int{
		1: 1, 40: 40, 200: 200, 201: 201, 999: 999, impl.MaxLong: impl.MaxLong, impl.MaxLong + 1: impl.MaxLong, 8765: impl.MaxLong, math.MaxInt: impl.MaxLong,
	} {
		if f := mustFacts(t, longRules(n)); f.Least[0] != want || !f.Makes[0] || f.Null[0] {
			t.Errorf("%d: %d", n, f.Least[0])
		}
	}
	// What is too long at first is shorter by a Prod that comes later.
	b := longRules(impl.MaxLong * 3)
	b.Prods = append(b.Prods, impl.Prod{Left: 1, Right: []int{0, 0}})
	if f := mustFacts(t, b); f.Least[0] != 2 {
		t.Error(f.Least)
	}
}

// towerRules have as many symbols and Prods as there may be: each Non makes the next one of them, as often as there may be.
func towerRules(upward bool) impl.Bnf {
	b := impl.Bnf{Own: impl.MaxNons}
	for i := range impl.MaxTerms {
		b.Terms = append(b.Terms, impl.Term{Name: "t" + strconv.Itoa(i)})
	}
	for i := range impl.MaxNons {
		b.Nons = append(b.Nons, "n"+strconv.Itoa(i))
		next := impl.MaxTerms + i + 1
		if i == impl.MaxNons-1 {
			next = impl.MaxTerms - 1
		}
		b.Prods = append(b.Prods, impl.Prod{Left: impl.MaxTerms + i, Right: slices.Repeat([]int{next}, impl.MaxRight)})
	}
	for i := len(b.Prods); i < impl.MaxProds; i++ {
		b.Prods = append(b.Prods, impl.Prod{Left: impl.MaxTerms + impl.MaxNons - 1, Right: []int{i % impl.MaxTerms, 0}})
	}
	if upward {
		slices.Reverse(b.Prods)
	}
	return b
}

func TestFactsOfTheLargestRules(t *testing.T) {
	for _, upward := range []bool{false, true} {
		b := towerRules(upward)
		if f := mustFacts(t, b); !sameFacts(f, factsBy(b)) || f.Least[0] != impl.MaxLong || f.Least[impl.MaxNons-1] != 2 || len(f.Follow[0]) != 1 || f.Follow[0][0] != impl.MaxTerms {
			t.Errorf("%v: %v", upward, f)
		}
		if cyclic, code := impl.Cyclic(b); cyclic || code != impl.OK {
			t.Error(upward, cyclic, code)
		}
		noShortest(t, b, 0, impl.ErrFull)
		wantShortest(t, b, impl.MaxNons-1, []int{40, 0})
		wantCount(t, b, impl.MaxNons-1, []int{59, 0}, 1)
		wantCount(t, b, 0, slices.Repeat([]int{59}, impl.MaxWord), 0)
		if list := mustWords(t, b, impl.MaxShort); len(list) != 0 {
			t.Error(upward, list)
		}
		// The last one leads back to the start, with nothing beside it.
		b.Prods[50].Left, b.Prods[50].Right = impl.MaxTerms+impl.MaxNons-1, []int{impl.MaxTerms}
		if f := mustFacts(t, b); !sameFacts(f, factsBy(b)) {
			t.Errorf("%v: %v", upward, f)
		}
	}
}

// unitChain are Nons of which each makes the next one, the last one whatever the Prods say.
func unitChain(n int, last ...impl.Prod) impl.Bnf {
	b := plain("a", "")
	b.Own = 1
	for i := range n {
		b.Nons = append(b.Nons, "n"+strconv.Itoa(i))
	}
	for i := 1; i < n; i++ {
		b.Prods = append(b.Prods, impl.Prod{Left: i, Right: []int{i + 1}})
	}
	b.Prods = append(b.Prods, last...)
	return b
}

func TestLongWaysThroughNons(t *testing.T) {
	last := impl.MaxNons
	b := unitChain(impl.MaxNons, impl.Prod{Left: last, Right: []int{0}})
	wantCount(t, b, 0, []int{0}, 1)
	wantShortest(t, b, 0, []int{0})
	if cyclic, _ := impl.Cyclic(b); cyclic {
		t.Error("not Cyclic")
	}
	b = unitChain(impl.MaxNons, impl.Prod{Left: last, Right: []int{1}}, impl.Prod{Left: last})
	if cyclic, _ := impl.Cyclic(b); !cyclic {
		t.Error("Cyclic")
	}
	if f := mustFacts(t, b); !f.LeftRec[0] || !f.LeftRec[last-1] || !f.Null[0] {
		t.Error(f)
	}
	// The start makes itself with a terminal behind it, in as many ways as there are places.
	b = unitChain(impl.MaxNons, impl.Prod{Left: last, Right: []int{1, 0}}, impl.Prod{Left: last})
	wantCount(t, b, 0, make([]int, impl.MaxWord), 1)
	if list := mustWords(t, b, impl.MaxShort); len(list) != impl.MaxShort+1 {
		t.Error(list)
	}
}

func noFacts(t *testing.T, b impl.Bnf) {
	t.Helper()
	if f, code := impl.FactsOf(b); code != impl.ErrBad || !sameFacts(f, impl.Facts{}) {
		t.Errorf("%v: FactsOf: %v, code %d", b, f, code)
	}
	if cyclic, code := impl.Cyclic(b); cyclic || code != impl.ErrBad {
		t.Errorf("%v: Cyclic: %v, code %d", b, cyclic, code)
	}
	for _, non := range []int{0, -1, len(b.Nons)} {
		noShortest(t, b, non, impl.ErrBad)
		noCount(t, b, non, nil, impl.ErrBad)
		noCount(t, b, non, []int{0}, impl.ErrBad)
		noWords(t, b, non, impl.ErrBad)
	}
}

// Rules that are not right are told ahead of all else that is wrong.
func TestFactsOfWrongRules(t *testing.T) {
	noFacts(t, impl.Bnf{})
	for _, spoil := range []func(b *impl.Bnf){
		func(b *impl.Bnf) { b.Own = 0 },
		func(b *impl.Bnf) { b.Own = 3 },
		func(b *impl.Bnf) { b.Nons[1] = b.Nons[0] },
		func(b *impl.Bnf) { b.Terms[1].Name = b.Terms[0].Name },
		func(b *impl.Bnf) { b.Terms[0].Level = 1 },
		func(b *impl.Bnf) { b.Prods[0].Left = 1 },
		func(b *impl.Bnf) { b.Prods[0].Left = math.MaxInt },
		func(b *impl.Bnf) { b.Prods[1].Right[0] = 4 },
		func(b *impl.Bnf) { b.Prods[1].Right[0] = math.MinInt },
		func(b *impl.Bnf) { b.Prods[1].Label = "_" },
		func(b *impl.Bnf) { b.Prods[1].Right = make([]int, impl.MaxRight+1) },
		func(b *impl.Bnf) { b.Prods = slices.Repeat(b.Prods[:1], impl.MaxProds+1) },
		func(b *impl.Bnf) { manyNons(b, impl.MaxNons+1) },
		func(b *impl.Bnf) { manyTerms(b, impl.MaxTerms+1) },
	} {
		// S = S is Cyclic, and A makes nothing.
		b := plain("ab", "SA", "S=S", "A=A")
		spoil(&b)
		noFacts(t, b)
	}
}

func TestWhichCodeComesFirst(t *testing.T) {
	cyclic := plain("ab", "SA", "S=S", "S=a")
	for _, non := range []int{-1, 2, math.MinInt, math.MaxInt} {
		noShortest(t, cyclic, non, impl.ErrPlace)
		noCount(t, cyclic, non, []int{0}, impl.ErrPlace)
		noCount(t, cyclic, non, []int{2}, impl.ErrBad)
		noCount(t, cyclic, non, make([]int, impl.MaxWord+1), impl.ErrBad)
	}
	for _, word := range [][]int{{-1}, {2}, {0, 1, 3}, {math.MinInt}, {math.MaxInt, 0}, make([]int, impl.MaxWord+1)} {
		noCount(t, cyclic, 0, word, impl.ErrBad)
	}
	noCount(t, cyclic, 0, make([]int, impl.MaxWord), impl.ErrLoop)
	noCount(t, cyclic, 1, nil, impl.ErrLoop)
	noShortest(t, cyclic, 1, impl.ErrNone)
	wantShortest(t, cyclic, 0, []int{0})
	for _, most := range []int{-1, impl.MaxShort + 1, math.MinInt, math.MaxInt} {
		noWords(t, cyclic, most, impl.ErrBad)
	}
	// Too many words, too; but Cyclic is told ahead of that.
	full := plain(manyLetters(50), "SAB", slices.Concat([]string{"S=AA"}, oneEach("A", manyLetters(50)))...)
	noWords(t, full, 2, impl.ErrFull)
	full.Prods = append(full.Prods, impl.Prod{Left: 52, Right: []int{52}})
	noWords(t, full, 2, impl.ErrLoop)
	noWords(t, full, 9, impl.ErrBad)
	// Without terminals there is the empty word alone.
	none := plain("", "S", "S=")
	wantCount(t, none, 0, nil, 1)
	noCount(t, none, 0, []int{0}, impl.ErrBad)
}

// roomyRules has all Rights in one array, each with the next one as its spare room.
func roomyRules(b impl.Bnf) impl.Bnf {
	room := make([]int, 0, 2000)
	b.Prods = slices.Clone(b.Prods)
	for i := range b.Prods {
		from := len(room)
		room = append(room, b.Prods[i].Right...)
		b.Prods[i].Right = room[from:]
		room = append(room, 77)
	}
	return b
}

func copyRules(b impl.Bnf) impl.Bnf {
	b.Terms, b.Nons, b.Prods = slices.Clone(b.Terms), slices.Clone(b.Nons), slices.Clone(b.Prods)
	for i := range b.Prods {
		b.Prods[i].Right = slices.Clone(b.Prods[i].Right[:cap(b.Prods[i].Right)])
	}
	return b
}

func spoilLists(lists ...[]int) {
	for _, list := range lists {
		all := list[:cap(list)]
		for i := range all {
			all[i] = -9
		}
	}
}

func TestFactsKeepAndShareNothing(t *testing.T) {
	for _, small := range manyRules(400) {
		b := roomyRules(small)
		kept := copyRules(b)
		word := make([]int, 5, 9)
		if len(b.Terms) == 0 {
			word = word[:0]
		}
		f := mustFacts(t, b)
		cyclic, _ := impl.Cyclic(b)
		shortest, code := impl.Shortest(b, 0)
		count, _ := impl.Count(b, 0, word)
		list, _ := impl.WordsOf(b, 4)
		spoilLists(f.Least)
		spoilLists(f.First...)
		spoilLists(f.Follow...)
		spoilLists(shortest)
		for i := range list {
			spoilLists(list[i].Word)
		}
		if !sameBnf(copyRules(b), kept) || slices.Max(word[:cap(word)]) != 0 {
			t.Fatalf("%s: written into", shownRules(kept))
		}
		if again := mustFacts(t, b); !sameFacts(again, factsBy(small)) {
			t.Fatalf("%s: %v", shownRules(b), again)
		}
		againCyclic, _ := impl.Cyclic(b)
		_, againCode := impl.Shortest(b, 0)
		againCount, _ := impl.Count(b, 0, word)
		againList, _ := impl.WordsOf(b, 4)
		if againCyclic != cyclic || againCode != code || againCount != count || len(againList) != len(list) {
			t.Fatalf("%s: not the same again", shownRules(b))
		}
	}
}

func TestListsOfFactsAreApart(t *testing.T) {
	for _, b := range manyRules(400) {
		f, want := mustFacts(t, b), factsBy(b)
		for non := range b.Nons {
			spoilLists(f.First[non])
			f.First[non] = want.First[non]
			if !sameFacts(f, want) {
				t.Fatalf("%s: First of %d is shared", shownRules(b), non)
			}
			spoilLists(f.Follow[non])
			f.Follow[non] = want.Follow[non]
			if !sameFacts(f, want) {
				t.Fatalf("%s: Follow of %d is shared", shownRules(b), non)
			}
		}
		list, code := impl.WordsOf(b, 4)
		if code != impl.OK {
			continue
		}
		again := mustWords(t, b, 4)
		for i := range list {
			spoilLists(list[i].Word)
			if !sameFound(list[i+1:], again[i+1:]) {
				t.Fatalf("%s: word %d is shared", shownRules(b), i)
			}
		}
	}
}
