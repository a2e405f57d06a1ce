package tests

import (
	"maps"
	"math/rand"
	"slices"
	"testing"

	"loop.example/g00037/impl"
)

var allKinds = []int{impl.KdCanon, impl.KdMerged, impl.KdSimple}

// aim is an item: a Prod (-1 for the start alone), a place, and a lookahead (-1 where there is none).
type aim struct {
	prod  int
	place int
	ahead int
}

type aims map[aim]bool

// tableModel finds states by the document's sentences, one item after the other.
type tableModel struct {
	impl.Bnf
	simple bool
	length []float64
	first  []termSet
	follow []termSet
	states []aims
	next   []map[int]int
}

func (m *tableModel) end() int { return len(m.Terms) }

func (m *tableModel) rightOf(prod int) []int {
	if prod < 0 {
		return []int{m.end()}
	}
	return m.Prods[prod].Right
}

// aheads are First of what stands behind, and the own one when all that makes the empty word.
func (m *tableModel) aheads(behind []int, own int) []int {
	if m.simple {
		return []int{-1}
	}
	terms := termSet{}
	for i, symbol := range behind {
		if empties(m.length, behind[:i]) {
			maps.Copy(terms, m.first[symbol])
		}
	}
	if empties(m.length, behind) {
		terms[own] = true
	}
	return terms.list()
}

func (m *tableModel) close(set aims) aims {
	waiting := slices.Collect(maps.Keys(set))
	for len(waiting) > 0 {
		one := waiting[0]
		waiting = waiting[1:]
		rest := m.rightOf(one.prod)[one.place:]
		for prod, p := range m.Prods {
			if len(rest) == 0 || p.Left != rest[0] {
				continue
			}
			for _, ahead := range m.aheads(rest[1:], one.ahead) {
				if more := (aim{prod, 0, ahead}); !set[more] {
					set[more] = true
					waiting = append(waiting, more)
				}
			}
		}
	}
	return set
}

func (m *tableModel) behind(set aims, symbol int) aims {
	moved := aims{}
	for one := range set {
		if right := m.rightOf(one.prod); one.place < len(right) && right[one.place] == symbol {
			moved[aim{one.prod, one.place + 1, one.ahead}] = true
		}
	}
	return m.close(moved)
}

// find tells whether there are not too many states.
func (m *tableModel) find() bool {
	first := aim{-1, 0, m.end()}
	if m.simple {
		first.ahead = -1
	}
	m.states = []aims{m.close(aims{first: true})}
	for n := 0; n < len(m.states); n++ {
		m.next = append(m.next, map[int]int{})
		for symbol := range len(m.Terms) + len(m.Nons) {
			set := m.behind(m.states[n], symbol)
			if len(set) == 0 {
				continue
			}
			number := slices.IndexFunc(m.states, func(known aims) bool { return maps.Equal(known, set) })
			if number < 0 {
				number = len(m.states)
				m.states = append(m.states, set)
			}
			m.next[n][symbol] = number
			if len(m.states) > impl.MaxStates {
				return false
			}
		}
	}
	return true
}

func bare(set aims) aims {
	cores := aims{}
	for one := range set {
		cores[aim{one.prod, one.place, -1}] = true
	}
	return cores
}

func (m *tableModel) merge() {
	var cores, states []aims
	var number []int
	for _, set := range m.states {
		core := bare(set)
		n := slices.IndexFunc(cores, func(known aims) bool { return maps.Equal(known, core) })
		if n < 0 {
			n = len(cores)
			cores, states = append(cores, core), append(states, aims{})
		}
		maps.Copy(states[n], set)
		number = append(number, n)
	}
	next := make([]map[int]int, len(states))
	for n, to := range m.next {
		if next[number[n]] == nil {
			next[number[n]] = map[int]int{}
		}
		for symbol, state := range to {
			next[number[n]][symbol] = number[state]
		}
	}
	m.states, m.next = states, next
}

// reduces are the Prods that may be reduced.
func (m *tableModel) reduces(state int, term int) []int {
	var list []int
	for prod, p := range m.Prods {
		at := aim{prod, len(p.Right), term}
		if m.simple {
			at.ahead = -1
		}
		if m.states[state][at] && (!m.simple || m.follow[p.Left][term]) {
			list = append(list, prod)
		}
	}
	return list
}

func (m *tableModel) accepts(state int, term int) bool {
	return term == m.end() && (m.states[state][aim{-1, 1, m.end()}] || m.states[state][aim{-1, 1, -1}])
}

// act is what is kept, and the Clashes.
func (m *tableModel) act(state int, term int) (impl.Act, []impl.Clash) {
	var kept impl.Act
	var clashes []impl.Clash
	clash := func(kept impl.Act, lost impl.Act, level bool) {
		clashes = append(clashes, impl.Clash{State: state, Term: term, Kept: kept, Lost: lost, Level: level})
	}
	if m.accepts(state, term) {
		kept = impl.Act{Kind: impl.AcAccept}
	}
	for _, prod := range m.reduces(state, term) {
		reduce := impl.Act{Kind: impl.AcReduce, N: prod}
		if kept == (impl.Act{}) {
			kept = reduce
		} else {
			clash(kept, reduce, false)
		}
	}
	to, found := m.next[state][term]
	if term == m.end() || !found {
		return kept, clashes
	}
	shift, reduce := impl.Act{Kind: impl.AcShift, N: to}, kept
	if reduce == (impl.Act{}) {
		return shift, clashes
	}
	mine, its, assoc := m.Prods[reduce.N].Level, m.Terms[term].Level, m.Terms[term].Assoc
	if mine == 0 || its == 0 {
		clash(shift, reduce, false)
		return shift, clashes
	}
	if mine == its && assoc == impl.AsNone {
		clash(impl.Act{}, reduce, true)
		clash(impl.Act{}, shift, true)
		return impl.Act{}, clashes
	}
	if mine > its || mine == its && assoc == impl.AsLeft {
		clash(reduce, shift, true)
		return reduce, clashes
	}
	clash(shift, reduce, true)
	return shift, clashes
}

// tableBy is what TableOf is to tell.
func tableBy(b impl.Bnf, kind int) (impl.Table, []impl.Clash, int) {
	m := &tableModel{Bnf: b, simple: kind == impl.KdSimple, length: shortestLengths(b)}
	m.first, m.follow = firstsAndFollows(b)
	if !m.find() {
		return impl.Table{}, nil, impl.ErrFull
	}
	if kind == impl.KdMerged {
		m.merge()
	}
	var table impl.Table
	var all []impl.Clash
	for state := range m.states {
		acts, gotos := []impl.Act{}, []int{}
		for term := range len(b.Terms) + 1 {
			act, clashes := m.act(state, term)
			acts, all = append(acts, act), append(all, clashes...)
		}
		for non := range b.Nons {
			to, found := m.next[state][len(b.Terms)+non]
			if !found {
				to = -1
			}
			gotos = append(gotos, to)
		}
		table.Acts, table.Gotos = append(table.Acts, acts), append(table.Gotos, gotos)
	}
	return table, all, impl.OK
}

func sameTable(a impl.Table, b impl.Table) bool {
	return slices.EqualFunc(a.Acts, b.Acts, slices.Equal[[]impl.Act]) && slices.EqualFunc(a.Gotos, b.Gotos, slices.Equal[[]int])
}

func samePack(a impl.Packed, b impl.Packed) bool {
	return slices.EqualFunc(a.Acts, b.Acts, slices.Equal[[]impl.Act]) && slices.EqualFunc(a.Gotos, b.Gotos, slices.Equal[[]int]) &&
		slices.Equal(a.ActRow, b.ActRow) && slices.Equal(a.GotoRow, b.GotoRow)
}

func mustTable(t *testing.T, b impl.Bnf, kind int) (impl.Table, []impl.Clash) {
	t.Helper()
	table, clashes, code := impl.TableOf(b, kind)
	if code != impl.OK {
		t.Fatalf("%s: TableOf kind %d: code %d", shownRules(b), kind, code)
	}
	return table, clashes
}

func wantTable(t *testing.T, b impl.Bnf, kind int) {
	t.Helper()
	table, clashes, code := impl.TableOf(b, kind)
	want, wantClashes, wantCode := tableBy(b, kind)
	if !sameTable(table, want) || !slices.Equal(clashes, wantClashes) || code != wantCode {
		t.Fatalf("%s: kind %d:\n%v %v %d\nand should be\n%v %v %d", shownRules(b), kind, table, clashes, code, want, wantClashes, wantCode)
	}
	if impl.TableOK(b, table) != (code == impl.OK) {
		t.Fatalf("%s: kind %d: TableOK", shownRules(b), kind)
	}
}

func noTable(t *testing.T, b impl.Bnf, kind int, want int) {
	t.Helper()
	if table, clashes, code := impl.TableOf(b, kind); code != want || len(clashes) != 0 || !sameTable(table, impl.Table{}) {
		t.Errorf("%s: kind %d: %v, %v, code %d, and should be code %d", shownRules(b), kind, table, clashes, code, want)
	}
}

// leveled gives some Terms and Prods Levels.
func leveled(r *rand.Rand, b impl.Bnf) impl.Bnf {
	for i := range b.Terms {
		if r.Intn(3) > 0 {
			b.Terms[i].Level, b.Terms[i].Assoc = 1+r.Intn(2), 1+r.Intn(3)
		}
	}
	for i := range b.Prods {
		if r.Intn(3) > 0 {
			b.Prods[i].Level, b.Prods[i].Assoc = 1+r.Intn(2), 1+r.Intn(3)
		}
	}
	return b
}

// rowsOf are states that differ in few numbers, so that many rows stand twice.
func rowsOf(r *rand.Rand, states int, acts int, gotos int) impl.Table {
	var table impl.Table
	for range states {
		row, to := make([]impl.Act, acts), make([]int, gotos)
		for i := range row {
			row[i] = impl.Act{Kind: r.Intn(2), N: r.Intn(2)}
		}
		for i := range to {
			to[i] = r.Intn(2) - 1
		}
		table.Acts, table.Gotos = append(table.Acts, row), append(table.Gotos, to)
	}
	return table
}

func copyTable(table impl.Table) impl.Table {
	return impl.Table{Acts: copyRows(table.Acts, false), Gotos: copyRows(table.Gotos, false)}
}

// copyRows has the spare room behind each row, too, where that is asked for.
func copyRows[E any](rows [][]E, spare bool) [][]E {
	var again [][]E
	for _, row := range rows {
		if spare {
			row = row[:cap(row)]
		}
		again = append(again, slices.Clone(row))
	}
	return again
}

// firstStands are the rows as they first stand, and for each the number of its own one.
func firstStands[E comparable](rows [][]E) ([][]E, []int) {
	var once [][]E
	var numbers []int
	for n, row := range rows {
		first := 0
		for !slices.Equal(rows[first], row) {
			first++
		}
		if first < n {
			numbers = append(numbers, numbers[first])
			continue
		}
		numbers, once = append(numbers, len(once)), append(once, row)
	}
	return once, numbers
}

// packedBy is what Shrink is to tell of a table with rows of one length.
func packedBy(table impl.Table) impl.Packed {
	var p impl.Packed
	p.Acts, p.ActRow = firstStands(table.Acts)
	p.Gotos, p.GotoRow = firstStands(table.Gotos)
	return p
}
