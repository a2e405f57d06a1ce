package tests

import (
	"cmp"
	"math/rand"
	"slices"
	"testing"

	"loop.example/g00037/impl"
)

// drive goes through a word by a table as the document's sentences tell it. Each state has the number of the reduce that it stands for, or -1.
type drive struct {
	states []int
	stands []int
	done   []reduced
}

// reduced is a Prod, and what the states stood for that left.
type reduced struct {
	prod int
	left []int
}

func newDrive() *drive { return &drive{states: []int{0}, stands: []int{-1}} }

func (d *drive) top() int { return d.states[len(d.states)-1] }

func (d *drive) put(state int, stands int) {
	d.states, d.stands = append(d.states, state), append(d.stands, stands)
}

func (d *drive) reduce(b impl.Bnf, table impl.Table, prod int) int {
	rest := len(d.states) - len(b.Prods[prod].Right)
	if rest < 1 {
		return impl.ErrPlace
	}
	to := table.Gotos[d.states[rest-1]][b.Prods[prod].Left-len(b.Terms)]
	if to < 0 {
		return impl.ErrPlace
	}
	d.done = append(d.done, reduced{prod, slices.Clone(d.stands[rest:])})
	if len(d.done) > impl.MaxReduces {
		return impl.ErrLoop
	}
	d.states, d.stands = d.states[:rest], d.stands[:rest]
	d.put(to, len(d.done)-1)
	return impl.OK
}

// told are the derivations of states, one behind the other.
func (d *drive) told(stands []int) []int {
	var list []int
	for _, number := range stands {
		if number >= 0 {
			list = append(append(list, d.done[number].prod), d.told(d.done[number].left)...)
		}
	}
	return list
}

// with does all reduces that a terminal asks for, and tells what is to be done then.
func (d *drive) with(b impl.Bnf, table impl.Table, term int) (int, int) {
	for {
		act := table.Acts[d.top()][term]
		if act.Kind != impl.AcReduce {
			return act.Kind, impl.OK
		}
		if code := d.reduce(b, table, act.N); code != impl.OK {
			return 0, code
		}
	}
}

// through tells whether it was accepted, and where it stands.
func (d *drive) through(b impl.Bnf, table impl.Table, word []int) (bool, int, int) {
	for at, term := range word {
		kind, code := d.with(b, table, term)
		if code == impl.OK && kind == impl.AcNone {
			code = impl.ErrText
		}
		if code != impl.OK || kind == impl.AcAccept {
			return kind == impl.AcAccept, code, at
		}
		d.put(table.Acts[d.top()][term].N, -1)
	}
	return false, impl.OK, len(word)
}

// parseBy is what Parse is to tell.
func parseBy(b impl.Bnf, table impl.Table, word []int) ([]int, int, int) {
	d := newDrive()
	done, code, at := d.through(b, table, word)
	if code == impl.OK && !done {
		var kind int
		kind, code = d.with(b, table, len(b.Terms))
		if code == impl.OK && kind != impl.AcAccept {
			code = impl.ErrText
		}
	}
	if code != impl.OK {
		return nil, code, at
	}
	return d.told(d.stands), impl.OK, 0
}

// expectedBy is what Expected is to tell.
func expectedBy(b impl.Bnf, table impl.Table, word []int) ([]int, int, int) {
	d := newDrive()
	done, code, at := d.through(b, table, word)
	if done {
		code = impl.ErrText
	}
	if code != impl.OK {
		return nil, code, at
	}
	var terms []int
	for term := range len(b.Terms) + 1 {
		trial := &drive{states: slices.Clone(d.states), stands: slices.Clone(d.stands)}
		if kind, code := trial.with(b, table, term); code == impl.OK && kind != impl.AcNone {
			terms = append(terms, term)
		}
	}
	return terms, impl.OK, 0
}

func wantParse(t *testing.T, b impl.Bnf, table impl.Table, word []int, want []int, wantCode int, wantAt int) {
	t.Helper()
	if list, code, at := impl.Parse(b, table, word); !slices.Equal(list, want) || code != wantCode || at != wantAt {
		t.Errorf("%s, %v: Parse of %v: %v, %d, %d, and should be %v, %d, %d", shownRules(b), table, word, list, code, at, want, wantCode, wantAt)
	}
}

func wantExpected(t *testing.T, b impl.Bnf, table impl.Table, word []int, want []int, wantCode int, wantAt int) {
	t.Helper()
	if list, code, at := impl.Expected(b, table, word); !slices.Equal(list, want) || code != wantCode || at != wantAt {
		t.Errorf("%s, %v: Expected behind %v: %v, %d, %d, and should be %v, %d, %d", shownRules(b), table, word, list, code, at, want, wantCode, wantAt)
	}
}

func wantYield(t *testing.T, b impl.Bnf, non int, d []int, want []int, wantCode int) {
	t.Helper()
	if word, code := impl.Yield(b, non, d); !slices.Equal(word, want) || code != wantCode {
		t.Errorf("%s: Yield by %d of %v: %v, code %d, and should be %v, code %d", shownRules(b), non, d, word, code, want, wantCode)
	}
}

func wantGood(t *testing.T, b impl.Bnf, non int, d []int, want bool, wantCode int) {
	t.Helper()
	if good, code := impl.Good(b, non, d); good != want || code != wantCode {
		t.Errorf("%v: Good by %d of %v: %v, code %d, and should be %v, code %d", b, non, d, good, code, want, wantCode)
	}
}

func wantPick(t *testing.T, b impl.Bnf, word []int, k int, want []int, wantCode int) {
	t.Helper()
	if list, code := impl.Pick(b, word, k); !slices.Equal(list, want) || code != wantCode {
		t.Errorf("%s: Pick %d of %v: %v, code %d, and should be %v, code %d", shownRules(b), k, word, list, code, want, wantCode)
	}
}

func mustPick(t *testing.T, b impl.Bnf, word []int, k int) []int {
	t.Helper()
	list, code := impl.Pick(b, word, k)
	if code != impl.OK {
		t.Fatalf("%s: Pick %d of %v: code %d", shownRules(b), k, word, code)
	}
	return list
}

func mustForest(t *testing.T, b impl.Bnf, word []int) []impl.FNode {
	t.Helper()
	nodes, code := impl.Forest(b, word)
	if code != impl.OK {
		t.Fatalf("%s: Forest of %v: code %d", shownRules(b), word, code)
	}
	return nodes
}

// noForest is a word of which neither all derivations are told nor one.
func noForest(t *testing.T, b impl.Bnf, word []int, want int) {
	t.Helper()
	if nodes, code := impl.Forest(b, word); len(nodes) != 0 || code != want {
		t.Errorf("%s: Forest of %v: %v, code %d, and should be code %d", shownRules(b), word, nodes, code, want)
	}
	for _, k := range []int{-1, 0, impl.MaxCount} {
		wantPick(t, b, word, k, nil, want)
	}
}

// growth is a derivation as a tree, with how many terminals it makes; a terminal has no Prod.
type growth struct {
	prod   int
	length int
	kids   []*growth
}

// numbers are as the document writes a derivation.
func (g *growth) numbers() []int {
	if g.prod < 0 {
		return nil
	}
	list := []int{g.prod}
	for _, kid := range g.kids {
		list = append(list, kid.numbers()...)
	}
	return list
}

// ends are where the kids end: as the places where they begin, these tell which comes first.
func (g *growth) ends(from int) []int {
	var list []int
	for _, kid := range g.kids {
		from += kid.length
		list = append(list, from)
	}
	return list
}

// compare is the order of Pick.
func (g *growth) compare(other *growth) int {
	if order := cmp.Or(cmp.Compare(g.prod, other.prod), slices.Compare(g.ends(0), other.ends(0))); order != 0 {
		return order
	}
	return slices.CompareFunc(g.kids, other.kids, (*growth).compare)
}

// growths are the derivations by each symbol of each word up to a length, grown by their height as long as there are more. There is nil when they are too many.
func growths(b impl.Bnf, most int, tooMany int) []map[string][]*growth {
	known := make([]map[string][]*growth, len(b.Terms)+len(b.Nons))
	for term := range b.Terms {
		known[term] = map[string][]*growth{string([]byte{byte(term)}): {{prod: -1, length: 1}}}
	}
	for size := -1; ; {
		higher := slices.Clone(known)
		for non := range b.Nons {
			higher[len(b.Terms)+non] = map[string][]*growth{}
		}
		sum := 0
		for prod, p := range b.Prods {
			found, ok := kidLists(known, p.Right, most, tooMany)
			if !ok {
				return nil
			}
			for word, lists := range found {
				for _, kids := range lists {
					higher[p.Left][word] = append(higher[p.Left][word], &growth{prod: prod, length: len(word), kids: kids})
				}
				sum += len(lists)
			}
		}
		if sum > tooMany {
			return nil
		}
		if sum == size {
			return higher
		}
		known, size = higher, sum
	}
}

// kidLists are, for each word, the derivations by symbols that stand one behind the other, unless they are too many.
func kidLists(known []map[string][]*growth, right []int, most int, tooMany int) (map[string][][]*growth, bool) {
	lists := map[string][][]*growth{"": {nil}}
	for _, symbol := range right {
		next := map[string][][]*growth{}
		size := 0
		for begin, ahead := range lists {
			for end, behind := range known[symbol] {
				if len(begin)+len(end) > most {
					continue
				}
				if size += len(ahead) * len(behind); size > tooMany {
					return nil, false
				}
				for _, kids := range ahead {
					for _, kid := range behind {
						next[begin+end] = append(next[begin+end], append(slices.Clone(kids), kid))
					}
				}
			}
		}
		lists = next
	}
	return lists, true
}

// part is what a node of a forest stands for.
type part struct {
	non  int
	from int
	to   int
}

// split is an Alt, told by the places where its symbols end.
type split struct {
	prod int
	ends []int
}

func compareSplits(a split, b split) int {
	return cmp.Or(cmp.Compare(a.prod, b.prod), slices.Compare(a.ends, b.ends))
}

// forestBy is what Forest is to tell of a word that has these derivations.
func forestBy(b impl.Bnf, all []*growth) []impl.FNode {
	splits := map[part][]split{}
	var look func(g *growth, from int)
	look = func(g *growth, from int) {
		if g.prod < 0 {
			return
		}
		at := part{b.Prods[g.prod].Left - len(b.Terms), from, from + g.length}
		splits[at] = append(splits[at], split{g.prod, g.ends(from)})
		for _, kid := range g.kids {
			look(kid, from)
			from += kid.length
		}
	}
	for _, g := range all {
		look(g, 0)
	}
	if len(all) == 0 {
		return nil
	}
	order := []part{{0, 0, all[0].length}}
	var nodes []impl.FNode
	for n := 0; n < len(order); n++ {
		at := order[n]
		node := impl.FNode{Non: at.non, From: at.from, To: at.to}
		slices.SortFunc(splits[at], compareSplits)
		for _, one := range slices.CompactFunc(splits[at], func(a, b split) bool { return compareSplits(a, b) == 0 }) {
			alt := impl.FAlt{Prod: one.prod}
			from := at.from
			for i, symbol := range b.Prods[one.prod].Right {
				number := -1
				if symbol >= len(b.Terms) {
					kid := part{symbol - len(b.Terms), from, one.ends[i]}
					if number = slices.Index(order, kid); number < 0 {
						number = len(order)
						order = append(order, kid)
					}
				}
				alt.Kids = append(alt.Kids, number)
				from = one.ends[i]
			}
			node.Alts = append(node.Alts, alt)
		}
		nodes = append(nodes, node)
	}
	return nodes
}

func sameForest(a []impl.FNode, b []impl.FNode) bool {
	sameAlt := func(x, y impl.FAlt) bool { return x.Prod == y.Prod && slices.Equal(x.Kids, y.Kids) }
	return slices.EqualFunc(a, b, func(x, y impl.FNode) bool {
		return x.Non == y.Non && x.From == y.From && x.To == y.To && slices.EqualFunc(x.Alts, y.Alts, sameAlt)
	})
}

// someTable is of the right form, and mostly none of TableOf.
func someTable(r *rand.Rand, b impl.Bnf, states int) impl.Table {
	var table impl.Table
	for range states {
		var acts []impl.Act
		for range len(b.Terms) + 1 {
			acts = append(acts, someAct(r, states, len(b.Prods)))
		}
		var gotos []int
		for range b.Nons {
			gotos = append(gotos, max(-1, r.Intn(states*4)-states*3))
			if r.Intn(5) > 0 {
				gotos[len(gotos)-1] = r.Intn(states)
			}
		}
		table.Acts, table.Gotos = append(table.Acts, acts), append(table.Gotos, gotos)
	}
	return table
}

func someAct(r *rand.Rand, states int, prods int) impl.Act {
	switch n := r.Intn(12); {
	case n == 0:
		return impl.Act{}
	case n == 1:
		return accepted
	case n < 6 && prods > 0:
		return reduceBy(r.Intn(prods))
	}
	return shiftTo(r.Intn(states))
}

func someWord(r *rand.Rand, terms int, most int) []int {
	word := []int{}
	for n := r.Intn(most + 1); n > 0 && terms > 0; n-- {
		word = append(word, r.Intn(terms))
	}
	return word
}
