package tests

import (
	"math"
	"math/rand"
	"slices"
	"strconv"
	"testing"

	"loop.example/g00037/impl"
)

// Promise 7: by a table without Clashes just the words with derivations are parsed, each to its only one.
func TestWithoutClashesAWordIsParsedWhenItHasADerivation(t *testing.T) {
	r := rand.New(rand.NewSource(7))
	checked, parsed := map[int]int{}, map[int]int{}
	for i, b := range manyRules(6000) {
		if isCyclic(b) {
			continue
		}
		if i%3 == 0 {
			b = leveled(r, b)
		}
		var all []map[string][]*growth
		for _, kind := range allKinds {
			table, clashes, code := impl.TableOf(b, kind)
			if code != impl.OK || len(clashes) > 0 {
				continue
			}
			if all == nil {
				all = growths(b, 4, 3000)
			}
			if all == nil {
				break
			}
			checked[kind]++
			for _, word := range allWords(len(b.Terms), 4) {
				parsed[kind] += asItsDerivations(t, b, table, termList(word), all[len(b.Terms)][word])
			}
		}
	}
	for _, kind := range allKinds {
		if checked[kind] < 300 || parsed[kind] < 300 {
			t.Error(kind, checked, parsed)
		}
	}
}

// asItsDerivations is how many words it parsed.
func asItsDerivations(t *testing.T, b impl.Bnf, table impl.Table, word []int, all []*growth) int {
	t.Helper()
	list, code, at := impl.Parse(b, table, word)
	if code == impl.ErrLoop {
		return 0
	}
	wantCount(t, b, 0, word, len(all))
	if len(all) == 0 && code != impl.OK && len(list) == 0 {
		return 0
	}
	if len(all) != 1 || code != impl.OK || at != 0 || !slices.Equal(list, all[0].numbers()) {
		t.Fatalf("%s: Parse of %v: %v, %d, %d, and there are %d derivations", shownRules(b), word, list, code, at, len(all))
	}
	return 1
}

// What is parsed is a derivation of the word, also where there are Clashes.
func TestWhatIsParsedIsADerivation(t *testing.T) {
	r := rand.New(rand.NewSource(77))
	parsed := 0
	for _, b := range manyRules(2000) {
		b = leveled(r, b)
		for _, kind := range allKinds {
			table, _, code := impl.TableOf(b, kind)
			if code != impl.OK {
				continue
			}
			for range 8 {
				word := someWord(r, len(b.Terms), 6)
				list, code, _ := impl.Parse(b, table, word)
				if code == impl.OK {
					parsed++
					wantYield(t, b, 0, list, word, impl.OK)
				}
			}
		}
	}
	if parsed < 2000 {
		t.Error(parsed)
	}
}

func TestParseByTablesOfAllKinds(t *testing.T) {
	r := rand.New(rand.NewSource(6))
	codes, expected := map[int]int{}, map[int]int{}
	for i, b := range manyRules(1200) {
		if i%2 == 0 {
			b = leveled(r, b)
		}
		for _, kind := range allKinds {
			table, _, code := impl.TableOf(b, kind)
			if code != impl.OK {
				continue
			}
			for range 5 {
				asTheTableSays(t, b, table, someWord(r, len(b.Terms), 7), codes, expected)
			}
		}
	}
	for _, code := range []int{impl.OK, impl.ErrText} {
		if codes[code] < 1000 || expected[code] < 1000 {
			t.Error(codes, expected)
		}
	}
}

func TestParseByTablesThatAreNoneOfRules(t *testing.T) {
	r := rand.New(rand.NewSource(66))
	codes, expected := map[int]int{}, map[int]int{}
	for _, b := range manyRules(3000) {
		table := someTable(r, b, 1+r.Intn(5))
		for range 3 {
			asTheTableSays(t, b, table, someWord(r, len(b.Terms), 7), codes, expected)
		}
	}
	for _, code := range []int{impl.OK, impl.ErrText, impl.ErrPlace, impl.ErrLoop} {
		if codes[code] < 100 || expected[code] < 100 {
			t.Error(codes, expected)
		}
	}
}

// asTheTableSays counts the codes of Parse and of Expected.
func asTheTableSays(t *testing.T, b impl.Bnf, table impl.Table, word []int, codes map[int]int, expected map[int]int) {
	t.Helper()
	list, code, at := parseBy(b, table, word)
	wantParse(t, b, table, word, list, code, at)
	codes[code]++
	list, code, at = expectedBy(b, table, word)
	wantExpected(t, b, table, word, list, code, at)
	expected[code]++
	if t.Failed() {
		t.FailNow()
	}
}

// Promise 28: a terminal is expected just when Parse comes past the word with it.
func TestExpectedAreTheTerminalsWithWhichItGoesOn(t *testing.T) {
	r := rand.New(rand.NewSource(28))
	past, not := 0, 0
	for i, b := range manyRules(3000) {
		if i%2 == 0 {
			b = leveled(r, b)
		}
		table, _, code := impl.TableOf(b, allKinds[i%3])
		if code != impl.OK {
			continue
		}
		if i%7 == 0 {
			table = withoutEndShifts(someTable(r, b, 4))
		}
		for range 4 {
			word := someWord(r, len(b.Terms), 5)
			list, code, _ := impl.Expected(b, table, word)
			for term := range len(b.Terms) + 1 {
				comes, isTold := comesPast(b, table, word, term)
				if !isTold {
					continue
				}
				if comes != (code == impl.OK && slices.Contains(list, term)) {
					t.Fatalf("%s, %v: behind %v there are %v, code %d, and %d comes past: %v", shownRules(b), table, word, list, code, term, comes)
				}
				past, not = past+oneFor(comes), not+oneFor(!comes)
			}
			if code == impl.OK && !slices.IsSorted(list) {
				t.Fatal(list)
			}
		}
	}
	if past < 2000 || not < 2000 {
		t.Error(past, not)
	}
}

// withoutEndShifts lets the end be accepted alone, and nothing else: so what Parse answers tells how far it came.
func withoutEndShifts(table impl.Table) impl.Table {
	for _, row := range table.Acts {
		last := len(row) - 1
		for i := range row {
			if i < last && row[i].Kind == impl.AcAccept || i == last && row[i].Kind == impl.AcShift {
				row[i] = impl.Act{}
			}
		}
	}
	return table
}

// comesPast asks Parse alone; it tells nothing where that is ErrLoop.
func comesPast(b impl.Bnf, table impl.Table, word []int, term int) (bool, bool) {
	if term == len(b.Terms) {
		_, code, _ := impl.Parse(b, table, word)
		return code == impl.OK, code != impl.ErrLoop
	}
	_, code, at := impl.Parse(b, table, append(slices.Clone(word), term))
	return code == impl.OK || at > len(word), code != impl.ErrLoop
}

// nest is S = a S b | c.
func nest() impl.Bnf { return plain("abc", "S", "S=aSb", "S=c") }

func TestParseByHand(t *testing.T) {
	b := nest()
	for _, kind := range allKinds {
		table, _ := mustTable(t, b, kind)
		wantParse(t, b, table, []int{2}, []int{1}, impl.OK, 0)
		wantParse(t, b, table, []int{0, 0, 2, 1, 1}, []int{0, 0, 1}, impl.OK, 0)
		wantParse(t, b, table, []int{0, 2}, nil, impl.ErrText, 2)
		wantParse(t, b, table, []int{0, 1, 2}, nil, impl.ErrText, 1)
		wantParse(t, b, table, []int{2, 2}, nil, impl.ErrText, 1)
		wantParse(t, b, table, nil, nil, impl.ErrText, 0)
		wantExpected(t, b, table, nil, []int{0, 2}, impl.OK, 0)
		wantExpected(t, b, table, []int{0, 2}, []int{1}, impl.OK, 0)
		wantExpected(t, b, table, []int{0, 2, 1}, []int{3}, impl.OK, 0)
		wantExpected(t, b, table, []int{2, 0}, nil, impl.ErrText, 1)
	}
	// The order of a derivation is not that of the reduces.
	b = plain("ab", "SAB", "S=AB", "A=a", "B=Ab", "A=")
	table, _ := mustTable(t, b, impl.KdCanon)
	wantParse(t, b, table, []int{0, 0, 1}, []int{0, 1, 2, 1}, impl.OK, 0)
	wantParse(t, b, table, []int{1}, []int{0, 3, 2, 3}, impl.OK, 0)
	// What makes the empty word alone has a derivation, and what makes nothing has none.
	b = plain("", "SA", "S=AA", "A=")
	table, _ = mustTable(t, b, impl.KdSimple)
	wantParse(t, b, table, nil, []int{0, 1, 1}, impl.OK, 0)
	wantExpected(t, b, table, nil, []int{0}, impl.OK, 0)
	b = plain("a", "S", "S=aS")
	table, _ = mustTable(t, b, impl.KdMerged)
	wantParse(t, b, table, []int{0, 0}, nil, impl.ErrText, 2)
	wantExpected(t, b, table, []int{0, 0}, []int{0}, impl.OK, 0)
}

// tableWith has a row of Acts for each state, a goto for each state by S alone.
func tableWith(gotos []int, acts ...[]impl.Act) impl.Table {
	table := impl.Table{Acts: acts}
	for _, state := range gotos {
		table.Gotos = append(table.Gotos, []int{state})
	}
	return table
}

func TestParseByOddTables(t *testing.T) {
	b := plain("a", "S", "S=a", "S=", "S=SS")
	// The end cannot be passed, but it is expected.
	table := tableWith([]int{-1, -1}, []impl.Act{shiftTo(1), shiftTo(0)}, []impl.Act{{}, shiftTo(1)})
	wantParse(t, b, table, nil, nil, impl.ErrText, 0)
	wantParse(t, b, table, []int{0}, nil, impl.ErrText, 1)
	wantExpected(t, b, table, nil, []int{0, 1}, impl.OK, 0)
	wantExpected(t, b, table, []int{0}, []int{1}, impl.OK, 0)
	// It is accepted ahead of a terminal: that one is not passed, nor are those behind it.
	table = tableWith([]int{1, -1}, []impl.Act{reduceBy(1), {}}, []impl.Act{accepted, shiftTo(0)})
	wantParse(t, b, table, []int{0}, []int{1}, impl.OK, 0)
	wantParse(t, b, table, []int{0, 0, 0}, []int{1}, impl.OK, 0)
	wantParse(t, b, table, nil, nil, impl.ErrText, 0)
	wantExpected(t, b, table, nil, []int{0}, impl.OK, 0)
	wantExpected(t, b, table, []int{0, 0}, nil, impl.ErrText, 0)
	// It is accepted at once, with nothing; and with shifts alone.
	table = tableWith([]int{-1}, []impl.Act{shiftTo(0), accepted})
	wantParse(t, b, table, nil, nil, impl.OK, 0)
	wantParse(t, b, table, []int{0, 0}, nil, impl.OK, 0)
	wantExpected(t, b, table, []int{0, 0}, []int{0, 1}, impl.OK, 0)
	// All that is left is told, one behind the other.
	table = tableWith([]int{2, -1, 3, -1}, []impl.Act{shiftTo(1), {}}, []impl.Act{reduceBy(0), reduceBy(0)}, []impl.Act{shiftTo(1), {}}, []impl.Act{{}, accepted})
	wantParse(t, b, table, []int{0, 0}, []int{0, 0}, impl.OK, 0)
	// A reduce takes what leaves, whether that is what its Right asks for or not.
	table.Acts[1][1] = reduceBy(2)
	table.Acts[2][1] = accepted
	wantParse(t, b, table, []int{0, 0}, []int{2, 0}, impl.OK, 0)
}

func TestReducesThatHaveNoPlace(t *testing.T) {
	b := plain("a", "S", "S=aa", "S=")
	// As many states as leave are too few: one has to be left.
	table := tableWith([]int{2, 2, 2}, []impl.Act{shiftTo(1), reduceBy(0)}, []impl.Act{shiftTo(1), reduceBy(0)}, []impl.Act{{}, accepted})
	wantParse(t, b, table, nil, nil, impl.ErrPlace, 0)
	wantParse(t, b, table, []int{0}, nil, impl.ErrPlace, 1)
	wantParse(t, b, table, []int{0, 0}, []int{0}, impl.OK, 0)
	wantExpected(t, b, table, []int{0}, []int{0}, impl.OK, 0)
	wantExpected(t, b, table, []int{0, 0}, []int{0, 1}, impl.OK, 0)
	// There is no state behind it.
	table.Gotos[0][0] = -1
	wantParse(t, b, table, []int{0, 0}, nil, impl.ErrPlace, 2)
	wantExpected(t, b, table, []int{0, 0}, []int{0}, impl.OK, 0)
	wantParse(t, b, table, []int{0, 0, 0}, []int{0}, impl.OK, 0)
	// The word cannot be passed.
	table.Acts[1][0] = reduceBy(1)
	table.Gotos[1][0] = -1
	wantParse(t, b, table, []int{0, 0, 0}, nil, impl.ErrPlace, 1)
	wantExpected(t, b, table, []int{0, 0, 0}, nil, impl.ErrPlace, 1)
	wantExpected(t, b, table, []int{0}, nil, impl.OK, 0)
}

// fiveAndTwenty are rules by which each a of a word has 25 reduces, all of them at its end, and some more above them.
func fiveAndTwenty(above int) impl.Bnf {
	b := impl.Bnf{Terms: []impl.Term{{Name: "a"}}, Own: 1}
	for i := range above + 25 {
		b.Nons = append(b.Nons, "n"+strconv.Itoa(i))
		if i > 0 {
			b.Prods = append(b.Prods, impl.Prod{Left: i, Right: []int{i + 1}})
		}
	}
	last := above + 25
	b.Prods = append(b.Prods, impl.Prod{Left: last, Right: []int{0, above + 1}}, impl.Prod{Left: last, Right: []int{0}})
	return b
}

// derivationOf is the one of n a, by rules of fiveAndTwenty.
func derivationOf(above int, n int) []int {
	var list []int
	for i := range above {
		list = append(list, i)
	}
	for left := n; left > 0; left-- {
		for i := range 24 {
			list = append(list, above+i)
		}
		list = append(list, above+24+oneFor(left == 1))
	}
	return list
}

func TestAsManyReducesAsThereMayBe(t *testing.T) {
	for _, kind := range allKinds {
		word := make([]int, impl.MaxParse)
		b := fiveAndTwenty(0)
		table, _ := mustTable(t, b, kind)
		list := derivationOf(0, impl.MaxParse)
		if len(list) != impl.MaxReduces {
			t.Fatal(len(list))
		}
		wantParse(t, b, table, word, list, impl.OK, 0)
		wantExpected(t, b, table, word, []int{0, 1}, impl.OK, 0)
		// One more that has no place, for there are too few states, is told as that.
		accept := slices.IndexFunc(table.Acts, func(row []impl.Act) bool { return row[1] == accepted })
		table.Acts[accept][1] = reduceBy(24)
		wantParse(t, b, table, word, nil, impl.ErrPlace, impl.MaxParse)
		wantExpected(t, b, table, word, []int{0}, impl.OK, 0)
		b = fiveAndTwenty(1)
		table, _ = mustTable(t, b, kind)
		wantParse(t, b, table, word, nil, impl.ErrLoop, impl.MaxParse)
		wantParse(t, b, table, word[1:], derivationOf(1, impl.MaxParse-1), impl.OK, 0)
		// With the end it would come to an accept, but by one reduce too many.
		wantExpected(t, b, table, word, []int{0}, impl.OK, 0)
		wantExpected(t, b, table, word[1:], []int{0, 1}, impl.OK, 0)
	}
}

// stairs are 25 reduces of the empty Prod ahead of each a; behind them the end has one more Act.
func stairs(last impl.Act) (impl.Bnf, impl.Table) {
	b := plain("a", "SA", "S=", "A=")
	var table impl.Table
	for i := range 26 {
		table.Acts = append(table.Acts, []impl.Act{reduceBy(0), {}})
		table.Gotos = append(table.Gotos, []int{min(i+1, 25), -1})
	}
	table.Acts[0][1] = last
	table.Acts[25] = []impl.Act{shiftTo(0), {}}
	return b, table
}

func TestReducesAllOverTheWord(t *testing.T) {
	word := make([]int, impl.MaxParse)
	b, table := stairs(accepted)
	wantParse(t, b, table, word, make([]int, impl.MaxReduces), impl.OK, 0)
	// Each terminal's reduces are counted anew: behind the word there have been as many as there may be.
	wantExpected(t, b, table, word, []int{0, 1}, impl.OK, 0)
	b, table = stairs(reduceBy(0))
	wantParse(t, b, table, word, nil, impl.ErrLoop, impl.MaxParse)
	wantParse(t, b, table, word[1:], nil, impl.ErrText, impl.MaxParse-1)
	wantExpected(t, b, table, word, []int{0}, impl.OK, 0)
	// One that has no place is told as that.
	b, table = stairs(reduceBy(1))
	wantParse(t, b, table, word, nil, impl.ErrPlace, impl.MaxParse)
	// A step more on the stairs: the reduces are too many within the word.
	table.Acts[25] = []impl.Act{reduceBy(0), {}}
	table.Gotos[25] = []int{25, -1}
	wantParse(t, b, table, word, nil, impl.ErrLoop, 0)
	wantExpected(t, b, table, word, nil, impl.ErrLoop, 0)
	wantExpected(t, b, table, nil, nil, impl.OK, 0)
}

func TestLoopsAreToldWhereTheyStand(t *testing.T) {
	// Behind two a there is no end of reduces, whichever terminal is next.
	b := plain("ab", "S", "S=", "S=SS")
	table := tableWith([]int{-1, -1, 2}, []impl.Act{shiftTo(1), {}, {}}, []impl.Act{shiftTo(2), {}, {}}, []impl.Act{reduceBy(0), reduceBy(0), reduceBy(0)})
	for _, word := range [][]int{{0, 0}, {0, 0, 0}, {0, 0, 1}} {
		wantParse(t, b, table, word, nil, impl.ErrLoop, 2)
	}
	wantExpected(t, b, table, []int{0, 0}, nil, impl.OK, 0)
	wantExpected(t, b, table, []int{0, 0, 1}, nil, impl.ErrLoop, 2)
	// By units nothing grows, and it does not end either.
	b = plain("a", "S", "S=S", "S=a")
	table = tableWith([]int{1, 1}, []impl.Act{shiftTo(1), {}}, []impl.Act{{}, reduceBy(0)})
	wantParse(t, b, table, []int{0}, nil, impl.ErrLoop, 1)
	wantExpected(t, b, table, []int{0}, nil, impl.OK, 0)
}

func TestLongestWordsToParse(t *testing.T) {
	for _, b := range []impl.Bnf{plain("a", "S", "S=Sa", "S=a"), plain("a", "S", "S=aS", "S=a")} {
		for _, kind := range allKinds {
			table, _ := mustTable(t, b, kind)
			word := make([]int, impl.MaxParse+1)
			list := make([]int, impl.MaxParse)
			list[impl.MaxParse-1] = 1
			wantParse(t, b, table, word[1:], list, impl.OK, 0)
			wantParse(t, b, table, word, nil, impl.ErrBad, 0)
			wantExpected(t, b, table, word[1:], []int{0, 1}, impl.OK, 0)
			wantExpected(t, b, table, word, nil, impl.ErrBad, 0)
		}
	}
}

func TestParseOfWrongInputs(t *testing.T) {
	b := nest()
	table, _ := mustTable(t, b, impl.KdCanon)
	bad := func(b impl.Bnf, table impl.Table, word []int) {
		t.Helper()
		wantParse(t, b, table, word, nil, impl.ErrBad, 0)
		wantExpected(t, b, table, word, nil, impl.ErrBad, 0)
	}
	for _, term := range []int{-1, 3, 4, math.MinInt, math.MaxInt} {
		bad(b, table, []int{term})
		// Also where it would not come as far.
		bad(b, table, []int{1, term})
	}
	bad(b, impl.Table{}, nil)
	bad(impl.Bnf{}, table, nil)
	bad(impl.Bnf{}, impl.Table{}, nil)
	wrong := nest()
	wrong.Own = 2
	bad(wrong, table, []int{2})
	bad(plain("abcd", "S", "S=aSb", "S=c"), table, []int{2})
	for _, change := range []func(x *impl.Table){
		func(x *impl.Table) { x.Acts = x.Acts[1:] },
		func(x *impl.Table) { x.Gotos = append(x.Gotos, []int{0}) },
		func(x *impl.Table) { x.Acts[3] = x.Acts[3][1:] },
		func(x *impl.Table) { x.Acts[3][1] = impl.Act{Kind: 4} },
		func(x *impl.Table) { x.Acts[3][1] = shiftTo(len(x.Acts)) },
		func(x *impl.Table) { x.Acts[3][1] = reduceBy(2) },
		func(x *impl.Table) { x.Gotos[0][0] = -2 },
	} {
		other := copyTable(table)
		change(&other)
		bad(b, other, []int{2})
	}
}

func TestParseKeepsAndSharesNothing(t *testing.T) {
	r := rand.New(rand.NewSource(60))
	for _, small := range manyRules(400) {
		b := roomyRules(small)
		table, _, code := impl.TableOf(b, impl.KdMerged)
		if code != impl.OK {
			continue
		}
		table = roomyTable(table)
		word := append(make([]int, 0, 20), someWord(r, len(b.Terms), 5)...)
		kept, was := copyRules(b), wholeTable(table)
		keptWord := slices.Clone(word[:cap(word)])
		list, code, at := impl.Parse(b, table, word)
		want := slices.Clone(list)
		spoilLists(list)
		wantParse(t, b, table, word, want, code, at)
		list, code, at = impl.Expected(b, table, word)
		want = slices.Clone(list)
		spoilLists(list)
		wantExpected(t, b, table, word, want, code, at)
		if !sameBnf(copyRules(b), kept) || !sameTable(wholeTable(table), was) || !slices.Equal(word[:cap(word)], keptWord) {
			t.Fatalf("%s: written into", shownRules(b))
		}
	}
}
