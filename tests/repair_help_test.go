package tests

import (
	"math/rand"
	"slices"
	"strings"
	"testing"

	"loop.example/g00037/impl"
)

// tooDear is what costs more than any change may.
const tooDear = impl.MaxCost + 1

// changing goes by the document's sentences: what is made so far stays, what is left is not gone through yet.
type changing struct {
	impl.Bnf
	impl.Costs
	made []int
	left []int
}

// costTable has what it costs at least to make something of the part from one place to another.
type costTable [][]int

func newCostTable(n int) costTable {
	table := make(costTable, n+1)
	for from := range table {
		table[from] = slices.Repeat([]int{tooDear}, n+1)
	}
	return table
}

// gone is what it costs to delete a part; what was made can't be deleted.
func (c changing) gone(from int, to int) int {
	cost := 0
	for place := from; place < to; place++ {
		if place < len(c.made) {
			return tooDear
		}
		cost += c.Del[c.left[place-len(c.made)]]
	}
	return min(cost, tooDear)
}

// ofTerm deletes all of a part but one that is the terminal, or all of it and puts in the terminal; nothing is put in ahead of what was made.
func (c changing) ofTerm(term int) costTable {
	all := slices.Concat(c.made, c.left)
	table := newCostTable(len(all))
	for from := range table {
		for to := from; to < len(table); to++ {
			least := tooDear
			if from >= len(c.made) {
				least = c.gone(from, to) + c.Ins[term]
			}
			for place := from; place < to; place++ {
				if all[place] == term {
					least = min(least, c.gone(from, place)+c.gone(place+1, to))
				}
			}
			table[from][to] = min(least, tooDear)
		}
	}
	return table
}

// toGo is what the rest of the change costs at least. What the Nons cost is found by going round as long as one becomes less.
func (c changing) toGo() int {
	n := len(c.made) + len(c.left)
	tables := make([]costTable, len(c.Terms)+len(c.Nons))
	for symbol := range tables {
		tables[symbol] = newCostTable(n)
		if symbol < len(c.Terms) {
			tables[symbol] = c.ofTerm(symbol)
		}
	}
	for less := true; less; {
		less = false
		for _, p := range c.Prods {
			for from := range n + 1 {
				for to, cost := range costsOfRight(tables, p.Right, from, n) {
					if cost < tables[p.Left][from][to] {
						tables[p.Left][from][to] = cost
						less = true
					}
				}
			}
		}
	}
	least := tooDear
	for to := range n + 1 {
		least = min(least, tables[len(c.Terms)][0][to]+c.gone(to, n))
	}
	return least
}

// costsOfRight are for each place up to which symbols reach that stand one behind the other.
func costsOfRight(tables []costTable, right []int, from int, n int) []int {
	costs := slices.Repeat([]int{tooDear}, n+1)
	costs[from] = 0
	for _, symbol := range right {
		next := slices.Repeat([]int{tooDear}, n+1)
		for place, cost := range costs {
			for to := place; to <= n && cost < tooDear; to++ {
				next[to] = min(next[to], cost+tables[symbol][place][to])
			}
		}
		costs = next
	}
	return costs
}

// doing is one way to go on.
type doing struct {
	edit  impl.Edit
	price int
	then  changing
}

// waysOn are in the order in which they are to be looked at.
func (c changing) waysOn() []doing {
	var list []doing
	if len(c.left) > 0 {
		next := c.left[0]
		kept, deleted := c, c
		kept.made, kept.left = append(slices.Clone(c.made), next), c.left[1:]
		deleted.left = c.left[1:]
		list = append(list, doing{impl.Edit{Kind: impl.EdKeep, Term: next}, 0, kept}, doing{impl.Edit{Kind: impl.EdDelete, Term: next}, c.Del[next], deleted})
	}
	for term, price := range c.Ins {
		putIn := c
		putIn.made = append(slices.Clone(c.made), term)
		list = append(list, doing{impl.Edit{Kind: impl.EdInsert, Term: term}, price, putIn})
	}
	return list
}

// first is the first way on with which all costs no more than rest. What could be done as well, but comes later, is counted.
func (c changing) first(rest int, met map[string]int) doing {
	var found []doing
	for _, way := range c.waysOn() {
		if way.price+way.then.toGo() != rest {
			continue
		}
		found = append(found, way)
		if met == nil {
			break
		}
	}
	for _, other := range found[1:] {
		met[shownKind(found[0].edit.Kind)+" or "+shownKind(other.edit.Kind)]++
	}
	return found[0]
}

// repairBy is what Repair is to tell.
func repairBy(b impl.Bnf, word []int, costs impl.Costs, met map[string]int) (impl.Fix, int) {
	if shortestLengths(b)[len(b.Terms)] < 0 {
		return impl.Fix{}, impl.ErrNone
	}
	c := changing{Bnf: b, Costs: costs, left: word}
	rest := c.toGo()
	if rest > impl.MaxCost {
		return impl.Fix{}, impl.ErrFull
	}
	fix := impl.Fix{Cost: rest}
	for len(c.left) > 0 || rest > 0 {
		way := c.first(rest, met)
		fix.Edits = append(fix.Edits, way.edit)
		c, rest = way.then, rest-way.price
	}
	fix.Word = c.made
	return fix, impl.OK
}

func shownKind(kind int) string { return "?kdi"[kind : kind+1] }

// shownEdits has two letters for each: k, d or i, and the terminal.
func shownEdits(edits []impl.Edit) string {
	s := ""
	for _, e := range edits {
		s += shownKind(e.Kind) + manyLetters(impl.MaxTerms)[e.Term:e.Term+1]
	}
	return s
}

// editsOf reads what shownEdits writes.
func editsOf(text string) []impl.Edit {
	var edits []impl.Edit
	for i := 0; i < len(text); i += 2 {
		edits = append(edits, impl.Edit{Kind: strings.Index("?kdi", text[i:i+1]), Term: strings.Index(manyLetters(impl.MaxTerms), text[i+1:i+2])})
	}
	return edits
}

func sameFix(a impl.Fix, b impl.Fix) bool {
	return a.Cost == b.Cost && slices.Equal(a.Word, b.Word) && slices.Equal(a.Edits, b.Edits)
}

func wantFix(t *testing.T, b impl.Bnf, word []int, c impl.Costs, want impl.Fix, wantCode int) {
	t.Helper()
	if fix, code := impl.Repair(b, word, c); !sameFix(fix, want) || code != wantCode {
		t.Errorf("%s: Repair of %v by %v: %v, code %d, and should be %v, code %d", shownRules(b), word, c, fix, code, want, wantCode)
	}
}

func noFix(t *testing.T, b impl.Bnf, word []int, c impl.Costs, want int) {
	t.Helper()
	wantFix(t, b, word, c, impl.Fix{}, want)
}

// fixed is by hand: terminals are letters, and so is the change.
func fixed(t *testing.T, b impl.Bnf, word string, c impl.Costs, cost int, change string, made string) {
	t.Helper()
	wantFix(t, b, lettersOf(word), c, impl.Fix{Cost: cost, Word: lettersOf(made), Edits: editsOf(change)}, impl.OK)
}

// prices are digits, one for each terminal.
func prices(ins string, del string) impl.Costs {
	digits := func(text string) []int {
		var list []int
		for _, digit := range []byte(text) {
			list = append(list, int(digit-'0'))
		}
		return list
	}
	return impl.Costs{Ins: digits(ins), Del: digits(del)}
}

// onePrice is the same for all terminals of rules.
func onePrice(b impl.Bnf, price int) impl.Costs {
	return impl.Costs{Ins: slices.Repeat([]int{price}, len(b.Terms)), Del: slices.Repeat([]int{price}, len(b.Terms))}
}

func somePrices(r *rand.Rand, terms int, highest int) impl.Costs {
	var c impl.Costs
	for range terms {
		c.Ins, c.Del = append(c.Ins, 1+r.Intn(highest)), append(c.Del, 1+r.Intn(highest))
	}
	return c
}

// distance is what a change from one word to another costs at least.
func distance(from []int, to []int, c impl.Costs) int {
	costs := make([][]int, len(from)+1)
	for i := range costs {
		costs[i] = make([]int, len(to)+1)
		for k := range costs[i] {
			switch {
			case i == 0 && k == 0:
				continue
			case i == 0:
				costs[i][k] = costs[i][k-1] + c.Ins[to[k-1]]
				continue
			case k == 0:
				costs[i][k] = costs[i-1][k] + c.Del[from[i-1]]
				continue
			}
			costs[i][k] = min(costs[i-1][k]+c.Del[from[i-1]], costs[i][k-1]+c.Ins[to[k-1]])
			if from[i-1] == to[k-1] {
				costs[i][k] = min(costs[i][k], costs[i-1][k-1])
			}
		}
	}
	return costs[len(from)][len(to)]
}

func priceOf(edits []impl.Edit, c impl.Costs) int {
	cost := 0
	for _, e := range edits {
		switch e.Kind {
		case impl.EdDelete:
			cost += c.Del[e.Term]
		case impl.EdInsert:
			cost += c.Ins[e.Term]
		}
	}
	return cost
}

func wantApplied(t *testing.T, word []int, edits []impl.Edit, want []int, wantCode int) {
	t.Helper()
	if made, code := impl.Apply(word, edits); !slices.Equal(made, want) || code != wantCode {
		t.Errorf("Apply to %v of %v: %v, code %d, and should be %v, code %d", word, edits, made, code, want, wantCode)
	}
}
