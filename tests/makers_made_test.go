package tests

import (
	"math/rand"
	"slices"
	"testing"

	"loop.example/g00037/impl"
)

// Promise 27: what is made does what Parse does, and what it tells, Downwards, is the derivation.
func TestWhatIsMadeDoesWhatParseDoes(t *testing.T) {
	r := rand.New(rand.NewSource(27))
	codes := map[int]int{}
	for i, b := range manyRules(1500) {
		if i%2 == 0 {
			b = leveled(r, b)
		}
		for _, kind := range allKinds {
			table, _, code := impl.TableOf(b, kind)
			if code != impl.OK {
				continue
			}
			p := checkMade(t, b, table)
			for range 6 {
				word := someWord(r, len(b.Terms), 7)
				code := asParseDoes(t, b, table, p, word)
				codes[code]++
				if code != impl.OK {
					continue
				}
				list, _, _ := impl.Parse(b, table, word)
				told, _, _, _ := impl.RunProgram(p, word, impl.MaxSteps)
				wantBoth(t, b, 0, list, told)
			}
		}
	}
	if codes[impl.OK] < 2000 || codes[impl.ErrText] < 2000 {
		t.Error(codes)
	}
}

func TestWhatIsMadeOfTablesThatAreNoneOfRules(t *testing.T) {
	r := rand.New(rand.NewSource(2727))
	codes := map[int]int{}
	for _, b := range manyRules(3000) {
		table := someTable(r, b, 1+r.Intn(6))
		p := checkMade(t, b, table)
		for range 4 {
			codes[asParseDoes(t, b, table, p, someWord(r, len(b.Terms), 7))]++
		}
	}
	for _, code := range []int{impl.OK, impl.ErrText, impl.ErrPlace, impl.ErrLoop} {
		if codes[code] < 100 {
			t.Error(codes)
		}
	}
}

func TestWhatIsMadeOfAllShortWords(t *testing.T) {
	for _, b := range []impl.Bnf{nest(), plain("ab", "SAB", "S=AB", "A=a", "B=Ab", "A="), plain("ab", "S", "S=SaS", "S=b"), plain("ab", "S", "S=Sa", "S=bS", "S=")} {
		for _, kind := range allKinds {
			table, _ := mustTable(t, b, kind)
			p := checkMade(t, b, table)
			tighter := checkTight(t, p)
			for _, word := range allWords(len(b.Terms), 6) {
				asParseDoes(t, b, table, p, termList(word))
				asParseDoes(t, b, table, tighter, termList(word))
				doesTheSame(t, p, tighter, termList(word), impl.MaxSteps)
			}
		}
	}
}

func TestMadeByHand(t *testing.T) {
	// States 0 and 1 have one row; 1, 2 and 5 are shifted to, 3 and 4 are led to.
	table, _ := mustTable(t, nest(), impl.KdSimple)
	wantMade(t, "nest", nest(), table,
		"push 0", "jump 2",
		"ifnext 0 15", "ifnext 2 18", "fail 2",
		"ifnext 1 27", "ifend 27", "fail 2",
		"ifend 37", "fail 2",
		"ifnext 1 21", "fail 2",
		"ifnext 1 24", "ifend 24", "fail 2",
		"push 1", "pass", "jump 2",
		"push 2", "pass", "jump 5",
		"push 5", "pass", "jump 12",
		"drop 3", "tell 0", "jump 30",
		"drop 1", "tell 1", "jump 30",
		"iftop 0 33", "iftop 1 35", "fail 4",
		"push 3", "jump 8",
		"push 4", "jump 10",
		"done")
	// The smallest table that there is.
	wantMade(t, "nothing", plain("", "S"), impl.Table{Acts: [][]impl.Act{{{}}}, Gotos: [][]int{{-1}}}, "push 0", "jump 2", "fail 2")
	wantMade(t, "accepted at once", plain("", "S"), impl.Table{Acts: [][]impl.Act{{accepted}}, Gotos: [][]int{{-1}}}, "push 0", "jump 2", "ifend 4", "fail 2", "done")
}

func TestRowsThatStandForSeveralStates(t *testing.T) {
	b := plain("ab", "S", "S=a")
	one, other := []impl.Act{shiftTo(2), {}, accepted}, []impl.Act{{}, shiftTo(1), {}}
	// States 0, 2 and 3 have one row, which stands ahead; 1 and 4 have the other.
	table := tableWith([]int{-1, -1, -1, -1, -1}, one, other, slices.Clone(one), slices.Clone(one), slices.Clone(other))
	wantMade(t, "two rows", b, table,
		"push 0", "jump 2",
		"ifnext 0 10", "ifend 13", "fail 2",
		"ifnext 1 7", "fail 2",
		"push 1", "pass", "jump 5",
		"push 2", "pass", "jump 2",
		"done")
	// The row of state 0 is the first one always, whatever else has it.
	table = tableWith([]int{-1, -1}, []impl.Act{{}, shiftTo(1), {}}, []impl.Act{{}, shiftTo(1), {}})
	wantMade(t, "one row", b, table, "push 0", "jump 2", "ifnext 1 4", "fail 2", "push 1", "pass", "jump 2")
	// A row without any Act.
	table = tableWith([]int{-1, -1}, []impl.Act{shiftTo(1), {}, {}}, []impl.Act{{}, {}, {}})
	wantMade(t, "an empty row", b, table, "push 0", "jump 2", "ifnext 0 5", "fail 2", "fail 2", "push 1", "pass", "jump 4")
}

// The end can be shifted, reduced and accepted with, and so can each terminal.
func TestTheEndAmongTerminals(t *testing.T) {
	b := plain("ab", "S", "S=a", "S=")
	table := tableWith([]int{0}, []impl.Act{shiftTo(0), {}, shiftTo(0)})
	wantMade(t, "a shift with the end", b, table, "push 0", "jump 2", "ifnext 0 5", "ifend 5", "fail 2", "push 0", "pass", "jump 2")
	asParseDoes(t, b, table, checkMade(t, b, table), []int{0, 0})
	wantRan(t, checkMade(t, b, table), []int{0, 0}, 99, ran{nil, impl.ErrText, 2, 14})
	table = tableWith([]int{0}, []impl.Act{{}, accepted, reduceBy(1)})
	wantMade(t, "accepted with a terminal", b, table, "push 0", "jump 2", "ifnext 1 12", "ifend 5", "fail 2", "drop 0", "tell 1", "jump 8", "iftop 0 10", "fail 4", "push 0", "jump 2", "done")
}

func TestTheOrderOfParts(t *testing.T) {
	// Prods that are reduced: 3 and 1, of the Nons B and A; states that are shifted to: 3 and 1; that are led to: 2 (by A), 3 (by B), 0 (by A).
	b := plain("ab", "SAB", "S=AB", "A=aa", "A=b", "B=")
	table := impl.Table{
		Acts: [][]impl.Act{
			{shiftTo(3), reduceBy(3), {}},
			{reduceBy(1), shiftTo(1), accepted},
			{reduceBy(1), shiftTo(1), accepted},
			{{}, {}, reduceBy(3)},
		},
		Gotos: [][]int{{1, 2, -1}, {-1, -1, 3}, {1, -1, -1}, {-1, 0, 3}},
	}
	wantMade(t, "all parts", b, table,
		"push 0", "jump 2",
		"ifnext 0 14", "ifnext 1 20", "fail 2",
		"ifnext 0 17", "ifnext 1 11", "ifend 35", "fail 2",
		"ifend 20", "fail 2",
		"push 1", "pass", "jump 5",
		"push 3", "pass", "jump 9",
		"drop 2", "tell 1", "jump 23",
		"drop 0", "tell 3", "jump 26",
		"iftop 0 31", "iftop 3 29", "fail 4",
		"iftop 1 33", "iftop 3 33", "fail 4",
		"push 0", "jump 2",
		"push 2", "jump 5",
		"push 3", "jump 9",
		"done")
}

func TestStatesThatAreShiftedToAndLedTo(t *testing.T) {
	b := plain("a", "S", "S=")
	table := tableWith([]int{1, 1}, []impl.Act{shiftTo(1), reduceBy(0)}, []impl.Act{shiftTo(0), accepted})
	wantMade(t, "both", b, table,
		"push 0", "jump 2",
		"ifnext 0 11", "ifend 14", "fail 2",
		"ifnext 0 8", "ifend 22", "fail 2",
		"push 0", "pass", "jump 2",
		"push 1", "pass", "jump 5",
		"drop 0", "tell 0", "jump 17",
		"iftop 0 20", "iftop 1 20", "fail 4",
		"push 1", "jump 5",
		"done")
}

// What no Act asks for has no part.
func TestWhatNoActAsksFor(t *testing.T) {
	// Prods 0 and 2 are not reduced; so nothing leads by B, nor to the states that B leads to.
	b := plain("a", "SB", "S=a", "S=aa", "B=a")
	table := impl.Table{
		Acts:  [][]impl.Act{{shiftTo(0), reduceBy(1)}, {{}, {}}, {{}, {}}},
		Gotos: [][]int{{-1, 2}, {-1, 2}, {1, 1}},
	}
	wantMade(t, "parts that are asked for", b, table,
		"push 0", "jump 2", "ifnext 0 6", "ifend 9", "fail 2", "fail 2",
		"push 0", "pass", "jump 2",
		"drop 2", "tell 1", "jump 12",
		"iftop 2 14", "fail 4",
		"push 1", "jump 5")
	// No Goto leads by the Non: its part is there all the same, and is the last one.
	table.Gotos[2][0] = -1
	wantMade(t, "a Non that leads nowhere", b, table,
		"push 0", "jump 2", "ifnext 0 6", "ifend 9", "fail 2", "fail 2",
		"push 0", "pass", "jump 2",
		"drop 2", "tell 1", "jump 12",
		"fail 4")
	wantRan(t, checkMade(t, b, table), []int{0, 0, 0}, 99, ran{[]int{1}, impl.ErrPlace, 3, 20})
	wantRan(t, checkMade(t, b, table), []int{0}, 99, ran{nil, impl.ErrPlace, 1, 9})
	for _, row := range table.Acts {
		if slices.Contains(row, accepted) {
			t.Fatal(row)
		}
	}
}

func TestAProdWithAnEmptyRight(t *testing.T) {
	b := plain("", "SA", "S=AA", "A=")
	for _, kind := range allKinds {
		table, _ := mustTable(t, b, kind)
		p := checkMade(t, b, table)
		if !slices.Contains(p, impl.Ins{Op: impl.InDrop}) || !slices.Contains(p, impl.Ins{Op: impl.InDrop, N: 2}) {
			t.Error(brief(p))
		}
		told, code, place, _ := impl.RunProgram(p, nil, 1000)
		if !slices.Equal(told, []int{1, 1, 0}) || code != impl.OK || place != 0 {
			t.Error(told, code, place)
		}
	}
}

// fullTable is as large as a table may be, with as many different rows as there can be, and a Goto for each.
func fullTable(b impl.Bnf) impl.Table {
	var table impl.Table
	for state := range impl.MaxStates {
		acts := make([]impl.Act, len(b.Terms)+1)
		for term := range acts {
			acts[term] = shiftTo((state + term) % impl.MaxStates)
			if term%2 == 0 {
				acts[term] = reduceBy((state + term) % len(b.Prods))
			}
		}
		acts[0] = shiftTo(state)
		if state == 9 {
			acts[1] = accepted
		}
		gotos := make([]int, len(b.Nons))
		for non := range gotos {
			gotos[non] = (state + non) % impl.MaxStates
		}
		table.Acts, table.Gotos = append(table.Acts, acts), append(table.Gotos, gotos)
	}
	return table
}

func TestMadeOfTheLargestTable(t *testing.T) {
	b := towerRules(true)
	if len(b.Terms) != impl.MaxTerms || len(b.Nons) != impl.MaxNons || len(b.Prods) != impl.MaxProds {
		t.Fatal(len(b.Terms), len(b.Nons), len(b.Prods))
	}
	for prod := range b.Prods {
		b.Prods[prod].Left = impl.MaxTerms + prod%impl.MaxNons
	}
	table := fullTable(b)
	if !impl.TableOK(b, table) {
		t.Fatal("no table")
	}
	p := checkMade(t, b, table)
	rows := impl.MaxStates * (impl.MaxTerms + 2)
	if want := 2 + rows + 3*impl.MaxStates + 3*impl.MaxProds + impl.MaxNons*(impl.MaxStates+1) + 2*impl.MaxStates + 1; len(p) != want {
		t.Error(len(p), want)
	}
	r := rand.New(rand.NewSource(170))
	tighter := checkTight(t, p)
	for range 50 {
		word := someWord(r, len(b.Terms), impl.MaxParse)
		asParseDoes(t, b, table, p, word)
		doesTheSame(t, p, tighter, word, impl.MaxSteps)
	}
	checkText(t, p)
}

// As many reduces as Parse does are told, and one more is no matter of a program's.
func TestMadeOfAsManyReducesAsThereMayBe(t *testing.T) {
	word := make([]int, impl.MaxParse)
	b := fiveAndTwenty(0)
	for _, kind := range allKinds {
		table, _ := mustTable(t, b, kind)
		told, code, place, _ := impl.RunProgram(checkMade(t, b, table), word, impl.MaxSteps)
		if len(told) != impl.MaxReduces || code != impl.OK || place != impl.MaxParse {
			t.Error(len(told), code, place)
		}
		if code := asParseDoes(t, b, table, checkMade(t, b, table), word); code != impl.OK {
			t.Error(code)
		}
		wantDown(t, b, 0, told, nil, impl.ErrBad)
	}
	b, table := stairs(reduceBy(1))
	if code := asParseDoes(t, b, table, checkMade(t, b, table), word); code != impl.ErrPlace {
		t.Error(code)
	}
	b, table = stairs(accepted)
	if code := asParseDoes(t, b, table, checkMade(t, b, table), word); code != impl.OK {
		t.Error(code)
	}
}

func TestMadeOfTablesThatAreNotRight(t *testing.T) {
	b := nest()
	table, _ := mustTable(t, b, impl.KdCanon)
	noMade(t, "no rules", impl.Bnf{}, table)
	noMade(t, "no table", b, impl.Table{})
	noMade(t, "nothing", impl.Bnf{}, impl.Table{})
	wrong := nest()
	wrong.Own = 2
	noMade(t, "rules that are not right", wrong, table)
	noMade(t, "other rules", plain("abcd", "S", "S=aSb", "S=c"), table)
	for why, change := range map[string]func(x *impl.Table){
		"a row of Acts less":     func(x *impl.Table) { x.Acts = x.Acts[1:] },
		"a row of Gotos more":    func(x *impl.Table) { x.Gotos = append(x.Gotos, []int{0}) },
		"an Act less":            func(x *impl.Table) { x.Acts[3] = x.Acts[3][1:] },
		"an Act more":            func(x *impl.Table) { x.Acts[3] = append(x.Acts[3], impl.Act{}) },
		"all Acts more":          func(x *impl.Table) { addToEach(x.Acts, impl.Act{}) },
		"all Gotos more":         func(x *impl.Table) { addToEach(x.Gotos, 0) },
		"an Act that is none":    func(x *impl.Table) { x.Acts[3][1] = impl.Act{Kind: 4} },
		"a state that is none":   func(x *impl.Table) { x.Acts[3][1] = shiftTo(len(x.Acts)) },
		"a state below 0":        func(x *impl.Table) { x.Acts[3][1] = shiftTo(-1) },
		"a Prod that is none":    func(x *impl.Table) { x.Acts[3][1] = reduceBy(2) },
		"an accept of 1":         func(x *impl.Table) { x.Acts[3][1] = impl.Act{Kind: impl.AcAccept, N: 1} },
		"a Goto that is none":    func(x *impl.Table) { x.Gotos[0][0] = -2 },
		"a Goto that is too far": func(x *impl.Table) { x.Gotos[0][0] = len(x.Acts) },
	} {
		other := copyTable(table)
		change(&other)
		noMade(t, why, b, other)
	}
	noMade(t, "a state too many", b, oneStateTable(b, impl.MaxStates+1))
	checkMade(t, b, oneStateTable(b, impl.MaxStates))
}

func addToEach[E any](rows [][]E, element E) {
	for i := range rows {
		rows[i] = append(rows[i], element)
	}
}

func TestMadeKeepsAndSharesNothing(t *testing.T) {
	for _, small := range manyRules(400) {
		b := roomyRules(small)
		table, _, code := impl.TableOf(b, impl.KdMerged)
		if code != impl.OK {
			continue
		}
		table = roomyTable(table)
		kept, was := copyRules(b), wholeTable(table)
		p, _ := impl.Made(b, table)
		for i := range p[:cap(p)] {
			p[:cap(p)][i] = impl.Ins{Op: -9, N: -9, To: -9}
		}
		checkMade(t, b, table)
		if !sameBnf(copyRules(b), kept) || !sameTable(wholeTable(table), was) {
			t.Fatalf("%s: written into", shownRules(b))
		}
	}
}
