package tests

import (
	"math"
	"math/rand"
	"slices"
	"testing"

	"loop.example/g00037/impl"
)

// wantPacked is promise 8: what is shrunk is widened to what it was.
func wantPacked(t *testing.T, table impl.Table) {
	t.Helper()
	p, code := impl.Shrink(table)
	if code != impl.OK || !samePack(p, packedBy(table)) {
		t.Fatalf("%v: %v, code %d, and should be %v", table, p, code, packedBy(table))
	}
	if again, code := impl.Widen(p); code != impl.OK || !sameTable(again, table) {
		t.Fatalf("%v: %v is widened to %v, code %d", table, p, again, code)
	}
}

func noPacked(t *testing.T, table impl.Table) {
	t.Helper()
	if p, code := impl.Shrink(table); code != impl.ErrBad || !samePack(p, impl.Packed{}) {
		t.Errorf("%v: %v, code %d", table, p, code)
	}
}

func noWide(t *testing.T, p impl.Packed) {
	t.Helper()
	if table, code := impl.Widen(p); code != impl.ErrForm || !sameTable(table, impl.Table{}) {
		t.Errorf("%v: %v, code %d", p, table, code)
	}
}

func TestWidenGivesBackWhatShrinkWasGiven(t *testing.T) {
	r := rand.New(rand.NewSource(8))
	for range 3000 {
		wantPacked(t, rowsOf(r, r.Intn(9), r.Intn(4), r.Intn(4)))
	}
	for range 30 {
		wantPacked(t, rowsOf(r, impl.MaxStates, r.Intn(9), r.Intn(9)))
	}
	for _, b := range manyRules(400) {
		for _, kind := range allKinds {
			if table, _, code := impl.TableOf(b, kind); code == impl.OK {
				wantPacked(t, table)
			}
		}
	}
	for _, kind := range allKinds {
		table, _ := mustTable(t, chainStates(impl.MaxStates), kind)
		wantPacked(t, table)
	}
}

func TestPackedByHand(t *testing.T) {
	a, b := impl.Act{Kind: 7, N: math.MinInt}, impl.Act{Kind: -3, N: math.MaxInt}
	for name, test := range map[string]struct {
		table impl.Table
		want  impl.Packed
	}{
		"no states":      {impl.Table{}, impl.Packed{}},
		"empty lists":    {impl.Table{Acts: [][]impl.Act{}, Gotos: [][]int{}}, impl.Packed{}},
		"an empty row":   {impl.Table{Acts: [][]impl.Act{nil}, Gotos: [][]int{{}}}, impl.Packed{Acts: [][]impl.Act{{}}, Gotos: [][]int{{}}, ActRow: []int{0}, GotoRow: []int{0}}},
		"empty rows":     {impl.Table{Acts: [][]impl.Act{{}, nil, {}}, Gotos: [][]int{nil, {}, nil}}, impl.Packed{Acts: [][]impl.Act{{}}, Gotos: [][]int{{}}, ActRow: []int{0, 0, 0}, GotoRow: []int{0, 0, 0}}},
		"empty Gotos":    {impl.Table{Acts: [][]impl.Act{{a}, {b}}, Gotos: [][]int{{}, {}}}, impl.Packed{Acts: [][]impl.Act{{a}, {b}}, Gotos: [][]int{{}}, ActRow: []int{0, 1}, GotoRow: []int{0, 0}}},
		"any numbers":    {impl.Table{Acts: [][]impl.Act{{a, b}, {b, a}, {a, b}}, Gotos: [][]int{{99}, {math.MaxInt}, {math.MaxInt}}}, impl.Packed{Acts: [][]impl.Act{{a, b}, {b, a}}, Gotos: [][]int{{99}, {math.MaxInt}}, ActRow: []int{0, 1, 0}, GotoRow: []int{0, 1, 1}}},
		"the last ones":  {impl.Table{Acts: [][]impl.Act{{a, a}, {a, b}}, Gotos: [][]int{{1, 2, 3}, {1, 2, 4}}}, impl.Packed{Acts: [][]impl.Act{{a, a}, {a, b}}, Gotos: [][]int{{1, 2, 3}, {1, 2, 4}}, ActRow: []int{0, 1}, GotoRow: []int{0, 1}}},
		"in their order": {impl.Table{Acts: [][]impl.Act{{b}, {a}, {b}, {}}[:3], Gotos: [][]int{{3}, {1}, {2}}}, impl.Packed{Acts: [][]impl.Act{{b}, {a}}, Gotos: [][]int{{3}, {1}, {2}}, ActRow: []int{0, 1, 0}, GotoRow: []int{0, 1, 2}}},
	} {
		if p, code := impl.Shrink(test.table); code != impl.OK || !samePack(p, test.want) {
			t.Errorf("%s: %v, code %d", name, p, code)
		}
		if table, code := impl.Widen(test.want); code != impl.OK || !sameTable(table, test.table) {
			t.Errorf("%s: Widen: %v, code %d", name, table, code)
		}
	}
}

func TestTablesThatAreNotShrunk(t *testing.T) {
	r := rand.New(rand.NewSource(9))
	many := rowsOf(r, impl.MaxStates+1, 2, 2)
	noPacked(t, many)
	noPacked(t, impl.Table{Acts: make([][]impl.Act, impl.MaxStates+1), Gotos: make([][]int, impl.MaxStates+1)})
	noPacked(t, impl.Table{Acts: make([][]impl.Act, impl.MaxStates+1)})
	for _, spoil := range []func(table *impl.Table){
		func(table *impl.Table) { table.Acts = nil },
		func(table *impl.Table) { table.Gotos = nil },
		func(table *impl.Table) { table.Acts = table.Acts[:3] },
		func(table *impl.Table) { table.Gotos = table.Gotos[1:] },
		func(table *impl.Table) { table.Gotos = append(table.Gotos, table.Gotos[0]) },
		func(table *impl.Table) { table.Gotos = append(table.Gotos, nil) },
		func(table *impl.Table) { table.Acts[0] = nil },
		func(table *impl.Table) { table.Acts[3] = table.Acts[3][:1] },
		func(table *impl.Table) { table.Acts[2] = make([]impl.Act, 3) },
		func(table *impl.Table) { table.Gotos[0] = table.Gotos[0][:2] },
		func(table *impl.Table) { table.Gotos[3] = nil },
		func(table *impl.Table) { table.Gotos[1] = make([]int, 4) },
	} {
		table := rowsOf(r, 4, 2, 3)
		spoil(&table)
		noPacked(t, table)
	}
}

// goodPack has two rows of Acts and three of Gotos.
func goodPack() impl.Packed {
	return impl.Packed{
		Acts:    [][]impl.Act{{accepted}, {reduceBy(0)}},
		Gotos:   [][]int{{1, 1}, {2, 2}, {3, 3}},
		ActRow:  []int{0, 0, 1, 0},
		GotoRow: []int{0, 1, 0, 2},
	}
}

func TestPackedOfWhichNoTableIs(t *testing.T) {
	if _, code := impl.Widen(goodPack()); code != impl.OK {
		t.Fatal("the one that is right")
	}
	for name, spoil := range map[string]func(p *impl.Packed){
		"an Act row that stands twice":      func(p *impl.Packed) { p.Acts[1] = p.Acts[0] },
		"a Goto row that stands twice":      func(p *impl.Packed) { p.Gotos[2] = []int{2, 2} },
		"an Act row that no state has":      func(p *impl.Packed) { p.Acts = append(p.Acts, []impl.Act{{}}) },
		"a Goto row that no state has":      func(p *impl.Packed) { p.GotoRow[3] = 1 },
		"the first row that no state has":   func(p *impl.Packed) { p.ActRow = []int{1, 1, 1, 1} },
		"Act rows in another order":         func(p *impl.Packed) { p.ActRow = []int{1, 0, 1, 0} },
		"Goto rows in another order":        func(p *impl.Packed) { p.GotoRow = []int{0, 2, 1, 0} },
		"an Act number that is no row":      func(p *impl.Packed) { p.ActRow[3] = 2 },
		"a Goto number that is no row":      func(p *impl.Packed) { p.GotoRow[3] = 3 },
		"a number below 0":                  func(p *impl.Packed) { p.ActRow[0] = -1 },
		"a Goto number below 0":             func(p *impl.Packed) { p.GotoRow[0] = -1 },
		"the least number":                  func(p *impl.Packed) { p.GotoRow[2] = math.MinInt },
		"the greatest number":               func(p *impl.Packed) { p.ActRow[2] = math.MaxInt },
		"fewer states of Acts":              func(p *impl.Packed) { p.ActRow = p.ActRow[:3] },
		"fewer states of Gotos":             func(p *impl.Packed) { p.Gotos, p.GotoRow = p.Gotos[:2], p.GotoRow[:3] },
		"no Acts":                           func(p *impl.Packed) { p.Acts, p.ActRow = nil, nil },
		"no Gotos":                          func(p *impl.Packed) { p.Gotos, p.GotoRow = nil, nil },
		"rows without states":               func(p *impl.Packed) { p.ActRow, p.GotoRow = nil, nil },
		"states without rows":               func(p *impl.Packed) { p.Acts, p.Gotos = nil, nil },
		"Act rows of several lengths":       func(p *impl.Packed) { p.Acts[1] = append(p.Acts[1], impl.Act{}) },
		"an empty row of Acts":              func(p *impl.Packed) { p.Acts[1] = nil },
		"Goto rows of several lengths":      func(p *impl.Packed) { p.Gotos[0] = p.Gotos[0][:1] },
		"an empty row of Gotos":             func(p *impl.Packed) { p.Gotos[2] = nil },
		"more states than there may be":     func(p *impl.Packed) { p.ActRow, p.GotoRow = longList(p.ActRow), longList(p.GotoRow) },
		"more Act numbers than there are":   func(p *impl.Packed) { p.ActRow = longList(p.ActRow) },
		"more Goto numbers than there are":  func(p *impl.Packed) { p.GotoRow = longList(p.GotoRow) },
		"an empty row that stands twice":    func(p *impl.Packed) { p.Acts = [][]impl.Act{{}, nil} },
		"an empty row that no state has":    func(p *impl.Packed) { *p = impl.Packed{Acts: [][]impl.Act{{}}} },
		"an empty Goto row, without states": func(p *impl.Packed) { *p = impl.Packed{Gotos: [][]int{{}}} },
	} {
		p := goodPack()
		spoil(&p)
		t.Run(name, func(t *testing.T) { noWide(t, p) })
	}
	// As many states as there may be.
	p := goodPack()
	p.ActRow, p.GotoRow = longList(p.ActRow)[1:], longList(p.GotoRow)[1:]
	if table, code := impl.Widen(p); code != impl.OK || len(table.Acts) != impl.MaxStates {
		t.Error(code)
	}
}

// longList ends as the list does, behind zeros, and is one longer than there may be states.
func longList(list []int) []int {
	return append(make([]int, impl.MaxStates+1-len(list)), list...)
}

// lists are all lists of these, up to a length.
func lists[E any](elements []E, most int) [][]E {
	all := [][]E{nil}
	for from := 0; most > 0; most-- {
		to := len(all)
		for _, list := range all[from:to] {
			for _, element := range elements {
				all = append(all, append(slices.Clone(list), element))
			}
		}
		from = to
	}
	return all
}

// packedText is the same for two that are the same.
func packedText(rows [][]int, numbers []int) string {
	text := ""
	for _, row := range rows {
		text += "r"
		for _, n := range row {
			text += string(rune('5' + n))
		}
	}
	text += "|"
	for _, n := range numbers {
		text += string(rune('5' + n))
	}
	return text
}

// All small ones: there is a Table just for those that are what a small Table is shrunk to.
func TestWidenOfAllSmallPacked(t *testing.T) {
	rows := lists([]int{0, 1}, 1)
	tables := map[string][][]int{}
	for _, gotos := range lists(rows, 3) {
		if slices.ContainsFunc(gotos, func(row []int) bool { return len(row) != len(gotos[0]) }) {
			continue
		}
		once, numbers := firstStands(gotos)
		tables[packedText(once, numbers)] = gotos
	}
	met := 0
	for _, gotos := range lists(rows, 3) {
		for _, numbers := range lists([]int{-1, 0, 1, 2, 3}, 3) {
			want, found := tables[packedText(gotos, numbers)]
			// The Acts are right: one row that all states have.
			p := impl.Packed{Gotos: gotos, GotoRow: numbers, ActRow: make([]int, len(numbers))}
			if len(numbers) > 0 {
				p.Acts = [][]impl.Act{{accepted}}
			}
			// And the other way round.
			var q impl.Packed
			q.Acts, q.ActRow, q.Gotos, q.GotoRow = asActs(gotos), numbers, [][]int{{7}}[:len(p.Acts)], p.ActRow
			table, code := impl.Widen(p)
			other, otherCode := impl.Widen(q)
			if found != (code == impl.OK) || found != (otherCode == impl.OK) || !found && (code != impl.ErrForm || otherCode != impl.ErrForm) {
				t.Fatalf("%v: codes %d and %d", p, code, otherCode)
			}
			if found && (!slices.EqualFunc(table.Gotos, want, slices.Equal[[]int]) || !slices.EqualFunc(other.Acts, asActs(want), slices.Equal[[]impl.Act])) {
				t.Fatalf("%v: %v and %v", p, table, other)
			}
			met += oneFor(found)
		}
	}
	if met != len(tables) {
		t.Errorf("%d of %d", met, len(tables))
	}
}

func asActs(rows [][]int) [][]impl.Act {
	var acts [][]impl.Act
	for _, row := range rows {
		list := []impl.Act{}
		for _, n := range row {
			list = append(list, shiftTo(n))
		}
		acts = append(acts, list)
	}
	return acts
}

// roomyTable has all rows in one array, each with the next one as its spare room.
func roomyTable(table impl.Table) impl.Table {
	return impl.Table{Acts: roomyRows(table.Acts), Gotos: roomyRows(table.Gotos)}
}

func roomyRows[E any](rows [][]E) [][]E {
	room := make([]E, 0, 200)
	var roomy [][]E
	for _, row := range rows {
		from := len(room)
		room = append(room, row...)
		roomy = append(roomy, room[from:])
	}
	return roomy
}

// wholeTable has the spare room of all rows, too.
func wholeTable(table impl.Table) impl.Table {
	return impl.Table{Acts: copyRows(table.Acts, true), Gotos: copyRows(table.Gotos, true)}
}

func TestPackedKeepsAndSharesNothing(t *testing.T) {
	r := rand.New(rand.NewSource(88))
	for range 500 {
		table := roomyTable(rowsOf(r, 1+r.Intn(8), r.Intn(4), r.Intn(4)))
		was := wholeTable(table)
		p, _ := impl.Shrink(table)
		kept := packedBy(copyTable(table))
		for i := range p.Acts {
			spoilTable(impl.Table{Acts: p.Acts[i : i+1]})
			p.Acts[i] = slices.Clone(kept.Acts[i])
		}
		for i := range p.Gotos {
			spoilLists(p.Gotos[i])
			p.Gotos[i] = slices.Clone(kept.Gotos[i])
		}
		if !samePack(p, kept) || !sameTable(wholeTable(table), was) {
			t.Fatalf("%v: Shrink shares", table)
		}
		packed := roomyTable(impl.Table{Acts: kept.Acts, Gotos: kept.Gotos})
		p.Acts, p.Gotos = packed.Acts, packed.Gotos
		wasPacked := wholeTable(packed)
		wide, _ := impl.Widen(p)
		wasWide := copyTable(wide)
		for state := range wide.Acts {
			spoilTable(impl.Table{Acts: wide.Acts[state : state+1], Gotos: wide.Gotos[state : state+1]})
			wide.Acts[state], wide.Gotos[state] = wasWide.Acts[state], wasWide.Gotos[state]
			if !sameTable(wide, wasWide) || !samePack(p, kept) || !sameTable(wholeTable(packed), wasPacked) {
				t.Fatalf("%v: Widen shares", p)
			}
		}
	}
}
