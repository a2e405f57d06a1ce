package tests

import (
	"math"
	"math/rand"
	"slices"
	"strings"
	"testing"

	"loop.example/g00037/impl"
)

func shiftTo(state int) impl.Act { return impl.Act{Kind: impl.AcShift, N: state} }

func reduceBy(prod int) impl.Act { return impl.Act{Kind: impl.AcReduce, N: prod} }

var accepted = impl.Act{Kind: impl.AcAccept}

// sortOf is a letter for each of the two, and L when Levels told it.
func sortOf(c impl.Clash) string {
	level := ""
	if c.Level {
		level = "L"
	}
	return string([]byte{"-sra"[c.Kept.Kind], "-sra"[c.Lost.Kind]}) + level
}

func TestTablesOfManyRules(t *testing.T) {
	r := rand.New(rand.NewSource(5))
	met := map[string]int{}
	merged, simple := 0, 0
	for i, b := range manyRules(1500) {
		if i%3 > 0 {
			b = leveled(r, b)
		}
		var sizes []int
		for _, kind := range allKinds {
			wantTable(t, b, kind)
			table, clashes, _ := impl.TableOf(b, kind)
			for _, c := range clashes {
				met[sortOf(c)]++
			}
			sizes = append(sizes, len(table.Acts))
		}
		merged += oneFor(sizes[0] != sizes[1])
		simple += oneFor(sizes[1] != sizes[2])
	}
	for _, sort := range []string{"ar", "rr", "sr", "srL", "rsL", "-rL", "-sL"} {
		if met[sort] < 10 {
			t.Errorf("too few Clashes %s: %v", sort, met)
		}
	}
	if len(met) != 7 {
		t.Errorf("other Clashes: %v", met)
	}
	if merged < 10 || simple < 10 {
		t.Errorf("too few rules on which the kinds part: %d and %d", merged, simple)
	}
}

func oneFor(holds bool) int {
	if holds {
		return 1
	}
	return 0
}

// The kinds part: how many states each of them has, and its Clashes.
func TestKindsPart(t *testing.T) {
	type part struct {
		states  int
		clashes []impl.Clash
	}
	for name, test := range map[string]struct {
		rules impl.Bnf
		parts [3]part
	}{
		"no prods":  {plain("a", "S"), [3]part{{2, nil}, {2, nil}, {2, nil}}},
		"no terms":  {plain("", "S", "S="), [3]part{{2, nil}, {2, nil}, {2, nil}}},
		"all alike": {plain("a", "S", "S=a"), [3]part{{3, nil}, {3, nil}, {3, nil}}},
		// What may follow R anywhere may not follow it behind L.
		"the simple one clashes": {plain("=*i", "SLR", "S=L=R", "S=R", "L=*R", "L=i", "R=L"), [3]part{
			{14, nil}, {10, nil},
			{10, []impl.Clash{{State: 4, Term: 0, Kept: shiftTo(8), Lost: reduceBy(4)}}}}},
		// A and B are told apart by what stands ahead of them and what stands behind them.
		"the merged one clashes": {plain("abcde", "SAB", "S=aAc", "S=aBd", "S=bBc", "S=bAd", "A=e", "B=e"), [3]part{
			{14, nil},
			{13, []impl.Clash{{State: 4, Term: 2, Kept: reduceBy(4), Lost: reduceBy(5)}, {State: 4, Term: 3, Kept: reduceBy(4), Lost: reduceBy(5)}}},
			{13, []impl.Clash{{State: 4, Term: 2, Kept: reduceBy(4), Lost: reduceBy(5)}, {State: 4, Term: 3, Kept: reduceBy(4), Lost: reduceBy(5)}}}}},
		// Behind A nothing can stand, so it has no lookahead, and no items; without lookaheads it has them.
		"one without lookaheads": {plain("a", "SAB", "S=AB", "A=a", "A=aa", "B=BB"), [3]part{{5, nil}, {5, nil}, {7, nil}}},
	} {
		for i, kind := range allKinds {
			wantTable(t, test.rules, kind)
			table, clashes := mustTable(t, test.rules, kind)
			if len(table.Acts) != test.parts[i].states || !slices.Equal(clashes, test.parts[i].clashes) {
				t.Errorf("%s, kind %d: %d states, %v", name, kind, len(table.Acts), clashes)
			}
		}
	}
}

func TestTableByHand(t *testing.T) {
	// A makes the empty word alone: it is reduced with whatever S may begin with.
	table, clashes := mustTable(t, plain("ab", "SA", "S=aAS", "S=b", "A="), impl.KdCanon)
	want := impl.Table{
		Acts: [][]impl.Act{
			{shiftTo(1), shiftTo(2), {}},
			{reduceBy(2), reduceBy(2), {}},
			{{}, {}, reduceBy(1)},
			{{}, {}, accepted},
			{shiftTo(1), shiftTo(2), {}},
			{{}, {}, reduceBy(0)},
		},
		Gotos: [][]int{{3, -1}, {-1, 4}, {-1, -1}, {-1, -1}, {5, -1}, {-1, -1}},
	}
	if !sameTable(table, want) || len(clashes) != 0 {
		t.Errorf("%v, %v", table, clashes)
	}
	// Without Prods there is the start alone.
	table, clashes = mustTable(t, plain("a", "SA"), impl.KdSimple)
	want = impl.Table{Acts: [][]impl.Act{{{}, {}}, {{}, accepted}}, Gotos: [][]int{{1, -1}, {-1, -1}}}
	if !sameTable(table, want) || len(clashes) != 0 {
		t.Errorf("%v, %v", table, clashes)
	}
}

func TestAcceptAgainstReduces(t *testing.T) {
	b := plain("a", "SA", "A=S", "S=S", "S=a", "S=A", "S=S")
	b.Prods[1].Level, b.Prods[1].Assoc = 8, impl.AsLeft
	for _, kind := range allKinds {
		wantTable(t, b, kind)
		table, clashes := mustTable(t, b, kind)
		// State 2 is behind S; the end is 1.
		want := []impl.Clash{
			{State: 2, Term: 1, Kept: accepted, Lost: reduceBy(0)},
			{State: 2, Term: 1, Kept: accepted, Lost: reduceBy(1)},
			{State: 2, Term: 1, Kept: accepted, Lost: reduceBy(4)},
		}
		if table.Acts[2][1] != accepted || !slices.Equal(clashes, want) {
			t.Errorf("kind %d: %v, %v", kind, table, clashes)
		}
	}
}

// S = S + S, twice, and S = i: behind S + S there are two reduces and, with +, a shift.
func TestReducesAgainstAShift(t *testing.T) {
	shift, first, second := shiftTo(3), reduceBy(0), reduceBy(1)
	reduces := func(term int) impl.Clash { return impl.Clash{State: 4, Term: term, Kept: first, Lost: second} }
	against := func(kept impl.Act, lost impl.Act, level bool) impl.Clash {
		return impl.Clash{State: 4, Kept: kept, Lost: lost, Level: level}
	}
	for name, test := range map[string]struct {
		levels [3]int // of +, of the first Prod, of the second one
		assoc  int
		kept   impl.Act
		want   []impl.Clash
	}{
		"no Levels":                           {[3]int{0, 0, 0}, 0, shift, []impl.Clash{against(shift, first, false)}},
		"the terminal's alone":                {[3]int{2, 0, 0}, impl.AsLeft, shift, []impl.Clash{against(shift, first, false)}},
		"the first Prod's alone":              {[3]int{0, 2, 0}, 0, shift, []impl.Clash{against(shift, first, false)}},
		"the second Prod's does not count":    {[3]int{1, 0, 8}, impl.AsLeft, shift, []impl.Clash{against(shift, first, false)}},
		"a higher Prod":                       {[3]int{1, 2, 0}, impl.AsRight, first, []impl.Clash{against(first, shift, true)}},
		"a higher Prod, the second one lower": {[3]int{2, 3, 1}, impl.AsNone, first, []impl.Clash{against(first, shift, true)}},
		"a lower Prod":                        {[3]int{3, 2, 0}, impl.AsLeft, shift, []impl.Clash{against(shift, first, true)}},
		"a lower Prod, the second one higher": {[3]int{7, 6, 8}, impl.AsLeft, shift, []impl.Clash{against(shift, first, true)}},
		"alike, left":                         {[3]int{8, 8, 1}, impl.AsLeft, first, []impl.Clash{against(first, shift, true)}},
		"alike, right":                        {[3]int{8, 8, 0}, impl.AsRight, shift, []impl.Clash{against(shift, first, true)}},
		"alike, none":                         {[3]int{1, 1, 2}, impl.AsNone, impl.Act{}, []impl.Clash{against(impl.Act{}, first, true), against(impl.Act{}, shift, true)}},
	} {
		for own := impl.AsLeft; own <= impl.AsNone; own++ { // the Prod's own Assoc tells nothing
			b := plain("+i", "S", "S=S+S", "S=S+S", "S=i")
			b.Terms[0].Level, b.Terms[0].Assoc = test.levels[0], test.assoc
			for prod, level := range test.levels[1:] {
				if b.Prods[prod].Level = level; level > 0 {
					b.Prods[prod].Assoc = own
				}
			}
			for _, kind := range allKinds {
				wantTable(t, b, kind)
				table, clashes := mustTable(t, b, kind)
				want := slices.Concat([]impl.Clash{reduces(0)}, test.want, []impl.Clash{reduces(2)})
				if table.Acts[4][0] != test.kept || table.Acts[4][2] != first || !slices.Equal(clashes, want) {
					t.Errorf("%s, kind %d: %v, %v", name, kind, table.Acts[4], clashes)
				}
			}
		}
	}
}

// chainStates are rules with n states of each kind: one at first, one behind S, and one behind each symbol of a Right.
func chainStates(n int) impl.Bnf {
	b := plain(manyLetters(impl.MaxTerms), "S")
	for left := n - 2; left > 0; left -= impl.MaxRight {
		right := slices.Repeat([]int{impl.MaxTerms - 1}, min(left, impl.MaxRight))
		right[0] = len(b.Prods)
		b.Prods = append(b.Prods, impl.Prod{Left: impl.MaxTerms, Right: right})
	}
	return b
}

func TestAsManyStatesAsThereMayBe(t *testing.T) {
	for _, kind := range allKinds {
		for n := impl.MaxStates - 2; n <= impl.MaxStates; n++ {
			wantTable(t, chainStates(n), kind)
			if table, _ := mustTable(t, chainStates(n), kind); len(table.Acts) != n {
				t.Errorf("kind %d: %d states, and should be %d", kind, len(table.Acts), n)
			}
		}
		noTable(t, chainStates(impl.MaxStates+1), kind, impl.ErrFull)
		noTable(t, chainStates(impl.MaxStates+400), kind, impl.ErrFull)
	}
}

// The merged table has few states, but it is made of the canonical one's.
func TestFullByTheCanonicalStates(t *testing.T) {
	letters := manyLetters(31)
	prods := []string{"A=!!!!!"}
	for _, letter := range strings.Split(letters, "") {
		prods = append(prods, "S="+letter+"A"+letter)
	}
	b := plain(letters+"!", "SA", prods...)
	for i, states := range []int{impl.MaxStates, 100, 100} {
		wantTable(t, b, allKinds[i])
		if table, _ := mustTable(t, b, allKinds[i]); len(table.Acts) != states {
			t.Errorf("kind %d: %d states", allKinds[i], len(table.Acts))
		}
	}
	b.Prods = append(b.Prods, impl.Prod{Left: b.Prods[1].Left, Right: []int{31}})
	noTable(t, b, impl.KdCanon, impl.ErrFull)
	noTable(t, b, impl.KdMerged, impl.ErrFull)
	wantTable(t, b, impl.KdSimple)
	if table, _ := mustTable(t, b, impl.KdSimple); len(table.Acts) != 101 {
		t.Errorf("%d states", len(table.Acts))
	}
}

// Where items have no lookahead, the simple table alone has them, and may have too many states.
func TestFullByTheSimpleStates(t *testing.T) {
	for more, code := range []int{impl.OK, impl.ErrFull} {
		b := chainStates(impl.MaxStates - 3 + more)
		b.Nons = []string{"A", "S", "B"}
		for i := range b.Prods {
			b.Prods[i].Left++
		}
		b.Prods = append(b.Prods, impl.Prod{Left: 60, Right: []int{61, 62}}, impl.Prod{Left: 62, Right: []int{62, 0}})
		table, _, got := impl.TableOf(b, impl.KdSimple)
		if got != code || code == impl.OK && len(table.Acts) != impl.MaxStates {
			t.Errorf("%d states, code %d, and should be code %d", len(table.Acts), got, code)
		}
		for _, kind := range allKinds {
			wantTable(t, b, kind)
		}
		if table, _ := mustTable(t, b, impl.KdCanon); len(table.Acts) != 5 {
			t.Errorf("%d states", len(table.Acts))
		}
	}
}

// As many symbols and Prods as there may be.
func TestTablesOfTheLargestRules(t *testing.T) {
	for _, upward := range []bool{false, true} {
		b := towerRules(upward)
		for _, kind := range allKinds {
			noTable(t, b, kind, impl.ErrFull)
		}
		// Rights of one symbol: each has one state; two of them are alike.
		for i := range b.Prods {
			b.Prods[i].Right = b.Prods[i].Right[:1]
		}
		for _, kind := range allKinds {
			table, clashes := mustTable(t, b, kind)
			if len(table.Acts) != impl.MaxProds+1 || len(table.Acts[0]) != impl.MaxTerms+1 || len(table.Gotos[0]) != impl.MaxNons || len(clashes) != 1 {
				t.Errorf("kind %d: %d states, %v", kind, len(table.Acts), clashes)
			}
			wantTable(t, b, kind)
		}
	}
	// All that is made may stand behind all: lookaheads are all terminals and the end.
	wide := plain(manyLetters(impl.MaxTerms), "SA", slices.Concat([]string{"S=", "S=AS"}, oneEach("A", manyLetters(impl.MaxTerms)))...)
	for _, kind := range allKinds {
		wantTable(t, wide, kind)
		if _, clashes := mustTable(t, wide, kind); len(clashes) > 0 {
			t.Errorf("kind %d: %v", kind, clashes)
		}
	}
}

func TestTablesOfWrongRules(t *testing.T) {
	full := chainStates(impl.MaxStates + 1)
	for _, kind := range []int{0, 4, -1, math.MinInt, math.MaxInt} {
		noTable(t, plain("a", "S", "S=a"), kind, impl.ErrBad)
		noTable(t, full, kind, impl.ErrBad)
		noTable(t, impl.Bnf{}, kind, impl.ErrBad)
	}
	for _, spoil := range []func(b *impl.Bnf){
		func(b *impl.Bnf) { *b = impl.Bnf{} },
		func(b *impl.Bnf) { b.Own = 0 },
		func(b *impl.Bnf) { b.Own = 2 },
		func(b *impl.Bnf) { b.Nons = nil },
		func(b *impl.Bnf) { b.Terms[1].Name = b.Terms[0].Name },
		func(b *impl.Bnf) { b.Terms[0].Level = 1 },
		func(b *impl.Bnf) { b.Terms[0].Level, b.Terms[0].Assoc = impl.MaxLevels+1, 1 },
		func(b *impl.Bnf) { b.Prods[0].Left = 1 },
		func(b *impl.Bnf) { b.Prods[0].Left = math.MaxInt },
		func(b *impl.Bnf) { b.Prods[1].Right[0] = 61 },
		func(b *impl.Bnf) { b.Prods[1].Right[0] = math.MinInt },
		func(b *impl.Bnf) { b.Prods[1].Right = make([]int, impl.MaxRight+1) },
		func(b *impl.Bnf) { b.Prods = slices.Repeat(b.Prods[:1], impl.MaxProds+1) },
		func(b *impl.Bnf) { manyNons(b, impl.MaxNons+1) },
		func(b *impl.Bnf) { manyTerms(b, impl.MaxTerms+1) },
	} {
		// Rules that are not right are told ahead of too many states.
		b := copyRules(full)
		spoil(&b)
		for _, kind := range allKinds {
			noTable(t, b, kind, impl.ErrBad)
		}
		if impl.TableOK(b, impl.Table{Acts: [][]impl.Act{make([]impl.Act, len(b.Terms)+1)}, Gotos: [][]int{make([]int, len(b.Nons))}}) {
			t.Errorf("%s: TableOK", shownRules(b))
		}
	}
}

// oneStateTable is nothing to do, in as many states.
func oneStateTable(b impl.Bnf, states int) impl.Table {
	var table impl.Table
	for range states {
		table.Acts = append(table.Acts, make([]impl.Act, len(b.Terms)+1))
		table.Gotos = append(table.Gotos, make([]int, len(b.Nons)))
	}
	return table
}

func TestTableOK(t *testing.T) {
	b := plain("ab", "SAB", "S=A", "A=a", "B=b", "B=")
	for states, want := range map[int]bool{0: false, 1: true, 2: true, impl.MaxStates: true, impl.MaxStates + 1: false} {
		if impl.TableOK(b, oneStateTable(b, states)) != want {
			t.Errorf("%d states", states)
		}
	}
	if !impl.TableOK(plain("", "S"), impl.Table{Acts: [][]impl.Act{{{}}}, Gotos: [][]int{{-1}}}) {
		t.Error("without terminals and Prods")
	}
	// Each Act may stand with each terminal, also with the end.
	for term := range 3 {
		for act, want := range map[impl.Act]bool{
			{}: true, {N: 1}: false, {N: -1}: false,
			shiftTo(0): true, shiftTo(4): true, shiftTo(5): false, shiftTo(-1): false, shiftTo(math.MaxInt): false, shiftTo(math.MinInt): false,
			reduceBy(0): true, reduceBy(3): true, reduceBy(4): false, reduceBy(-1): false, reduceBy(math.MaxInt): false, reduceBy(math.MinInt): false,
			accepted: true, {Kind: impl.AcAccept, N: 1}: false, {Kind: impl.AcAccept, N: -1}: false,
			{Kind: 4}: false, {Kind: -1}: false, {Kind: math.MaxInt}: false, {Kind: math.MinInt}: false,
		} {
			for _, state := range []int{0, 4} {
				table := oneStateTable(b, 5)
				table.Acts[state][term] = act
				if impl.TableOK(b, table) != want {
					t.Errorf("%v with %d in %d", act, term, state)
				}
			}
		}
	}
	for to, want := range map[int]bool{-2: false, -1: true, 0: true, 4: true, 5: false, math.MinInt: false, math.MaxInt: false} {
		for non := range 3 {
			table := oneStateTable(b, 5)
			table.Gotos[4][non] = to
			if impl.TableOK(b, table) != want {
				t.Errorf("Goto %d", to)
			}
		}
	}
	// A reduce where there are no Prods.
	if impl.TableOK(plain("", "S"), impl.Table{Acts: [][]impl.Act{{reduceBy(0)}}, Gotos: [][]int{{-1}}}) {
		t.Error("no Prod")
	}
}

func TestTablesOfAnotherForm(t *testing.T) {
	b := plain("ab", "SAB", "S=A", "A=a", "B=b", "B=")
	for _, spoil := range []func(table *impl.Table){
		func(table *impl.Table) { *table = impl.Table{} },
		func(table *impl.Table) { table.Acts = nil },
		func(table *impl.Table) { table.Gotos = nil },
		func(table *impl.Table) { table.Acts = table.Acts[:4] },
		func(table *impl.Table) { table.Gotos = table.Gotos[:4] },
		func(table *impl.Table) { table.Acts[0] = nil },
		func(table *impl.Table) { table.Acts[4] = table.Acts[4][:2] },
		func(table *impl.Table) { table.Acts[4] = make([]impl.Act, 4) },
		func(table *impl.Table) { table.Gotos[0] = nil },
		func(table *impl.Table) { table.Gotos[4] = table.Gotos[4][:2] },
		func(table *impl.Table) { table.Gotos[4] = make([]int, 4) },
	} {
		table := oneStateTable(b, 5)
		spoil(&table)
		if impl.TableOK(b, table) {
			t.Errorf("%v", table)
		}
	}
	if impl.TableOK(b, oneStateTable(plain("abc", "SAB"), 5)) || impl.TableOK(b, oneStateTable(plain("ab", "SA"), 5)) {
		t.Error("a table of other rules")
	}
}

// spoilTable writes into all that a table has.
func spoilTable(table impl.Table) {
	for _, row := range table.Acts {
		row = row[:cap(row)]
		for i := range row {
			row[i] = impl.Act{Kind: -9, N: -9}
		}
	}
	spoilLists(table.Gotos...)
}

func TestTablesKeepAndShareNothing(t *testing.T) {
	r := rand.New(rand.NewSource(55))
	for _, small := range manyRules(300) {
		b := roomyRules(leveled(r, small))
		kept := copyRules(b)
		for _, kind := range allKinds {
			table, clashes := mustTable(t, b, kind)
			wasTable, wasClashes := copyTable(table), slices.Clone(clashes)
			for state := range table.Acts {
				spoilTable(impl.Table{Acts: table.Acts[state : state+1], Gotos: table.Gotos[state : state+1]})
				table.Acts[state], table.Gotos[state] = wasTable.Acts[state], wasTable.Gotos[state]
				if !sameTable(table, wasTable) {
					t.Fatalf("%s: kind %d: rows of %d are shared", shownRules(b), kind, state)
				}
			}
			if !sameBnf(copyRules(b), kept) || !slices.Equal(clashes, wasClashes) {
				t.Fatalf("%s: kind %d: written into", shownRules(kept), kind)
			}
			again, clashesAgain := mustTable(t, b, kind)
			if !sameTable(again, wasTable) || !slices.Equal(clashesAgain, wasClashes) {
				t.Fatalf("%s: kind %d: not the same again", shownRules(b), kind)
			}
		}
	}
}
