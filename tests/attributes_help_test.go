package tests

import (
	"fmt"
	"math/rand"
	"slices"
	"strconv"
	"strings"
	"testing"

	"loop.example/g00037/impl"
)

// agOf reads attributes as "S.sum" (it goes up) or "S.place!" (it goes down), and Eqs as "0: 2.place = add 0.place #1": a Prod, what it is for, an Op and its Args: #1 is a number, 1 a terminal's value, and 0.place an attribute at a Pos.
func agOf(b impl.Bnf, attrs string, eqs ...string) impl.Ag {
	var ag impl.Ag
	for _, text := range strings.Fields(attrs) {
		non, name, _ := strings.Cut(text, ".")
		ag.Attrs = append(ag.Attrs, impl.Attr{Non: slices.Index(b.Nons, non), Name: strings.TrimSuffix(name, "!"), Down: strings.HasSuffix(name, "!")})
	}
	for _, text := range eqs {
		ag.Eqs = append(ag.Eqs, eqOf(b, ag.Attrs, text))
	}
	return ag
}

func eqOf(b impl.Bnf, attrs []impl.Attr, text string) impl.Eq {
	words := strings.Fields(text)
	prod, err := strconv.Atoi(strings.TrimSuffix(words[0], ":"))
	op := slices.Index([]string{"", "copy", "add", "sub", "mul", "max", "if"}, words[3])
	if err != nil || op < 1 || words[2] != "=" {
		panic(text)
	}
	aim := refOf(b, attrs, prod, words[1])
	e := impl.Eq{Prod: prod, Pos: aim.Pos, Attr: aim.Attr, Op: op}
	for _, word := range words[4:] {
		e.Args = append(e.Args, refOf(b, attrs, prod, word))
	}
	return e
}

func refOf(b impl.Bnf, attrs []impl.Attr, prod int, word string) impl.Ref {
	if number, isNumber := strings.CutPrefix(word, "#"); isNumber {
		n, err := strconv.Atoi(number)
		if err != nil {
			panic(word)
		}
		return impl.Ref{Pos: -1, N: n}
	}
	place, name, isAttr := strings.Cut(word, ".")
	pos, err := strconv.Atoi(place)
	if err != nil {
		panic(word)
	}
	if !isAttr {
		return impl.Ref{Pos: pos}
	}
	non := symbolAt(b, prod, pos) - len(b.Terms)
	attr := slices.IndexFunc(attrs, func(a impl.Attr) bool { return a.Non == non && a.Name == name })
	if attr < 0 {
		panic(word)
	}
	return impl.Ref{Pos: pos, Attr: attr}
}

func symbolAt(b impl.Bnf, prod int, pos int) int {
	return append([]int{b.Prods[prod].Left}, b.Prods[prod].Right...)[pos]
}

// rowRules is a row of x up to a y, with the sum of all that goes up and the place that goes down.
func rowRules() (impl.Bnf, impl.Ag) {
	b := plain("xy", "L", "L=xL", "L=y")
	return b, agOf(b, "L.sum L.place!",
		"0: 0.sum = add 1 2.sum",
		"0: 2.place = add 0.place #1",
		"1: 0.sum = mul 1 0.place",
	)
}

func copyBnf(b impl.Bnf) impl.Bnf {
	b.Terms, b.Nons, b.Prods = slices.Clone(b.Terms), slices.Clone(b.Nons), slices.Clone(b.Prods)
	for i := range b.Prods {
		b.Prods[i].Right = slices.Clone(b.Prods[i].Right)
	}
	return b
}

func copyAg(ag impl.Ag) impl.Ag {
	ag = impl.Ag{Attrs: slices.Clone(ag.Attrs), Eqs: slices.Clone(ag.Eqs)}
	for i := range ag.Eqs {
		ag.Eqs[i].Args = slices.Clone(ag.Eqs[i].Args)
	}
	return ag
}

func shownAg(b impl.Bnf, ag impl.Ag) string { return fmt.Sprintf("%s; %v", shownRules(b), ag) }

// isWay tells whether an attribute belongs to the Non at a Pos and goes this way.
func isWay(b impl.Bnf, ag impl.Ag, prod int, pos int, attr int, down bool) bool {
	if pos < 0 || pos > len(b.Prods[prod].Right) || attr < 0 || attr >= len(ag.Attrs) {
		return false
	}
	a := ag.Attrs[attr]
	return a.Down == down && a.Non == symbolAt(b, prod, pos)-len(b.Terms)
}

// agRight goes by the document's sentences, one after the other.
func agRight(b impl.Bnf, ag impl.Ag) bool {
	if !impl.BnfOK(b) || len(ag.Attrs) > impl.MaxAttrs || len(ag.Eqs) > impl.MaxEqs {
		return false
	}
	for i, a := range ag.Attrs {
		twice := slices.ContainsFunc(ag.Attrs[:i], func(other impl.Attr) bool { return other.Non == a.Non && other.Name == a.Name })
		if a.Non < 0 || a.Non >= len(b.Nons) || !impl.TreeOK(leaf(a.Name, "")) || twice {
			return false
		}
	}
	for _, e := range ag.Eqs {
		if e.Prod < 0 || e.Prod >= len(b.Prods) || !isWay(b, ag, e.Prod, e.Pos, e.Attr, e.Pos != 0) || !argsRight(b, ag, e) {
			return false
		}
	}
	for prod, p := range b.Prods {
		for pos := range len(p.Right) + 1 {
			for attr := range ag.Attrs {
				if isWay(b, ag, prod, pos, attr, pos != 0) && len(eqsFor(ag, prod, pos, attr)) != 1 {
					return false
				}
			}
		}
	}
	return true
}

func argsRight(b impl.Bnf, ag impl.Ag, e impl.Eq) bool {
	if e.Op < impl.AgCopy || e.Op > impl.AgIf || len(e.Args) != []int{0, 1, 2, 2, 2, 2, 3}[e.Op] {
		return false
	}
	for _, arg := range e.Args {
		right := false
		switch {
		case arg.Pos < -1 || arg.Pos > len(b.Prods[e.Prod].Right):
		case arg.Pos == -1:
			right = arg.Attr == 0 && -impl.MaxValue <= arg.N && arg.N <= impl.MaxValue
		case symbolAt(b, e.Prod, arg.Pos) < len(b.Terms):
			right = arg.Attr == 0 && arg.N == 0
		default:
			right = arg.N == 0 && isWay(b, ag, e.Prod, arg.Pos, arg.Attr, arg.Pos == 0)
		}
		if !right {
			return false
		}
	}
	return true
}

func eqsFor(ag impl.Ag, prod int, pos int, attr int) []impl.Eq {
	var list []impl.Eq
	for _, e := range ag.Eqs {
		if e.Prod == prod && e.Pos == pos && e.Attr == attr {
			list = append(list, e)
		}
	}
	return list
}

// spotAt numbers an attribute at a place, of a derivation or of a Prod.
func spotAt(place int, attr int) int { return place*100 + attr }

// stepsIn are the steps of a Prod, when these are related: first the one that goes down, then the one that goes up.
func stepsIn(b impl.Bnf, ag impl.Ag, prod int, related map[[2]int]bool) map[int][]int {
	steps := map[int][]int{}
	for _, e := range ag.Eqs {
		for _, arg := range e.Args {
			if e.Prod == prod && arg.Pos >= 0 && symbolAt(b, prod, arg.Pos) >= len(b.Terms) {
				steps[spotAt(arg.Pos, arg.Attr)] = append(steps[spotAt(arg.Pos, arg.Attr)], spotAt(e.Pos, e.Attr))
			}
		}
	}
	for pos := 1; pos <= len(b.Prods[prod].Right); pos++ {
		for pair := range related {
			if isWay(b, ag, prod, pos, pair[0], true) {
				steps[spotAt(pos, pair[0])] = append(steps[spotAt(pos, pair[0])], spotAt(pos, pair[1]))
			}
		}
	}
	return steps
}

// strongBy is what AgStrong is to tell.
func strongBy(b impl.Bnf, ag impl.Ag) bool {
	related := map[[2]int]bool{}
	for known := -1; known < len(related); {
		known = len(related)
		for prod := range b.Prods {
			steps := stepsIn(b, ag, prod, related)
			for down := range ag.Attrs {
				for up := range ag.Attrs {
					if isWay(b, ag, prod, 0, down, true) && isWay(b, ag, prod, 0, up, false) && goesTo(steps, spotAt(0, down), spotAt(0, up)) {
						related[[2]int{down, up}] = true
					}
				}
			}
		}
	}
	for prod, p := range b.Prods {
		steps := stepsIn(b, ag, prod, related)
		for pos := range len(p.Right) + 1 {
			for attr := range ag.Attrs {
				if goesTo(steps, spotAt(pos, attr), spotAt(pos, attr)) {
					return false
				}
			}
		}
	}
	return true
}

// saying is what a spot is: what an Eq says, with the spots and the numbers that its Args are.
type saying struct {
	op      int
	spots   []int
	numbers []int
}

// sayings are those of all spots of a derivation, which is one; and its spots, in order.
func sayings(b impl.Bnf, ag impl.Ag, d []int, vals []int) (map[int]saying, []int) {
	said := map[int]saying{}
	var spots []int
	place := -1
	var walk func() int
	walk = func() int {
		place++
		own, prod := place, d[place]
		for attr, a := range ag.Attrs {
			if isWay(b, ag, prod, 0, attr, a.Down) {
				spots = append(spots, spotAt(own, attr))
				if own == 0 && a.Down {
					said[spotAt(own, attr)] = saying{op: impl.AgCopy, spots: []int{-1}, numbers: []int{0}}
				}
			}
		}
		places, given := []int{own}, []int{0}
		for _, symbol := range b.Prods[prod].Right {
			if symbol < len(b.Terms) {
				places, given = append(places, -1), append(given, vals[0])
				vals = vals[1:]
			} else {
				places, given = append(places, walk()), append(given, 0)
			}
		}
		for _, e := range ag.Eqs {
			if e.Prod != prod {
				continue
			}
			s := saying{op: e.Op}
			for _, arg := range e.Args {
				switch {
				case arg.Pos == -1:
					s.spots, s.numbers = append(s.spots, -1), append(s.numbers, arg.N)
				case places[arg.Pos] < 0:
					s.spots, s.numbers = append(s.spots, -1), append(s.numbers, given[arg.Pos])
				default:
					s.spots, s.numbers = append(s.spots, spotAt(places[arg.Pos], arg.Attr)), append(s.numbers, 0)
				}
			}
			said[spotAt(places[e.Pos], e.Attr)] = s
		}
		return own
	}
	walk()
	return said, spots
}

// result is what is said, with the numbers that the Args are.
func (s saying) result(args []int) int {
	var n int
	switch s.op {
	case impl.AgCopy:
		n = args[0]
	case impl.AgAdd:
		n = args[0] + args[1]
	case impl.AgSub:
		n = args[0] - args[1]
	case impl.AgMul:
		n = args[0] * args[1]
	case impl.AgMax:
		n = slices.Max(args)
	case impl.AgIf:
		n = args[2]
		if args[0] != 0 {
			n = args[1]
		}
	}
	if n > impl.MaxValue {
		return impl.MaxValue
	}
	if n < -impl.MaxValue {
		return -impl.MaxValue
	}
	return n
}

// args are the numbers that the Args are, when all of them are known.
func (s saying) args(known map[int]int) ([]int, bool) {
	args := slices.Clone(s.numbers)
	for i, spot := range s.spots {
		if spot < 0 {
			continue
		}
		n, found := known[spot]
		if !found {
			return nil, false
		}
		args[i] = n
	}
	return args, true
}

// valuesBy goes round as long as there is a spot all of whose Args are known; what is left then hangs on itself, or on one that does.
func valuesBy(b impl.Bnf, ag impl.Ag, d []int, vals []int) ([]int, int) {
	said, spots := sayings(b, ag, d, vals)
	known := map[int]int{}
	for before := -1; before < len(known); {
		before = len(known)
		for _, spot := range spots {
			if args, found := said[spot].args(known); found {
				known[spot] = said[spot].result(args)
			}
		}
	}
	if len(known) < len(spots) {
		return nil, impl.ErrLoop
	}
	var values []int
	for _, spot := range spots {
		values = append(values, known[spot])
	}
	return values, impl.OK
}

// hangs goes from each spot of a derivation to those that it hangs on directly.
func hangs(b impl.Bnf, ag impl.Ag, d []int) (map[int][]int, []int) {
	said, spots := sayings(b, ag, d, make([]int, impl.MaxRight*len(d)))
	on := map[int][]int{}
	for _, spot := range spots {
		for _, arg := range said[spot].spots {
			if arg >= 0 {
				on[spot] = append(on[spot], arg)
			}
		}
	}
	return on, spots
}

// needBy is what AgNeed is to tell of an attribute that there is.
func needBy(on map[int][]int, spots []int, one int) (int, int) {
	need := 0
	for _, spot := range spots {
		if spot != one && !goesTo(on, one, spot) {
			continue
		}
		if goesTo(on, spot, spot) {
			return 0, impl.ErrLoop
		}
		need++
	}
	return need, impl.OK
}

func wantRight(t *testing.T, why string, b impl.Bnf, ag impl.Ag) {
	t.Helper()
	if !agRight(b, ag) || !impl.AgOK(b, ag) {
		t.Errorf("%s: not right: %s", why, shownAg(b, ag))
	}
}

// noAg asks all four functions; d is a derivation, with these vals, where the rules are right.
func noAg(t *testing.T, why string, b impl.Bnf, ag impl.Ag, d []int, vals []int) {
	t.Helper()
	if impl.AgOK(b, ag) {
		t.Errorf("%s: right: %s", why, shownAg(b, ag))
	}
	if strong, code := impl.AgStrong(b, ag); strong || code != impl.ErrBad {
		t.Errorf("%s: AgStrong is %v, %d", why, strong, code)
	}
	wantValues(t, b, ag, d, vals, nil, impl.ErrBad)
	wantNeed(t, b, ag, d, 0, 0, 0, impl.ErrBad)
}

func wantStrong(t *testing.T, b impl.Bnf, ag impl.Ag, want bool) {
	t.Helper()
	if strong, code := impl.AgStrong(b, ag); strong != want || code != impl.OK || strongBy(b, ag) != want {
		t.Errorf("%s: AgStrong is %v, code %d, and should be %v", shownAg(b, ag), strong, code, want)
	}
}

func wantValues(t *testing.T, b impl.Bnf, ag impl.Ag, d []int, vals []int, want []int, wantCode int) {
	t.Helper()
	if values, code := impl.AgEval(b, ag, d, vals); !slices.Equal(values, want) || code != wantCode {
		t.Errorf("%s: AgEval of %v with %v: %v, code %d, and should be %v, code %d", shownAg(b, ag), d, vals, values, code, want, wantCode)
	}
}

// wantModel compares with the model, and asks of the values themselves whether each is what its Eq says.
func wantModel(t *testing.T, b impl.Bnf, ag impl.Ag, d []int, vals []int) int {
	t.Helper()
	values, code := impl.AgEval(b, ag, d, vals)
	want, wantCode := valuesBy(b, ag, d, vals)
	if !slices.Equal(values, want) || code != wantCode {
		t.Fatalf("%s: AgEval of %v with %v: %v, code %d, and should be %v, code %d", shownAg(b, ag), d, vals, values, code, want, wantCode)
	}
	if code != impl.OK {
		return code
	}
	said, spots := sayings(b, ag, d, vals)
	known := map[int]int{}
	for i, spot := range spots {
		known[spot] = values[i]
	}
	for spot, s := range said {
		if args, found := s.args(known); !found || known[spot] != s.result(args) {
			t.Fatalf("%s: AgEval of %v with %v: %v: the value of %d is not what its Eq says", shownAg(b, ag), d, vals, values, spot)
		}
	}
	return code
}

func wantNeed(t *testing.T, b impl.Bnf, ag impl.Ag, d []int, at int, attr int, want int, wantCode int) {
	t.Helper()
	if n, code := impl.AgNeed(b, ag, d, at, attr); n != want || code != wantCode {
		t.Errorf("%s: AgNeed of %v at %d of %d: %d, code %d, and should be %d, code %d", shownAg(b, ag), d, at, attr, n, code, want, wantCode)
	}
}

// wantNeeds asks for each place and each attribute, and around them.
func wantNeeds(t *testing.T, b impl.Bnf, ag impl.Ag, d []int) {
	t.Helper()
	on, spots := hangs(b, ag, d)
	for at := -1; at <= len(d); at++ {
		for attr := -1; attr <= len(ag.Attrs); attr++ {
			want, code := 0, impl.ErrPlace
			if at >= 0 && attr >= 0 && slices.Contains(spots, spotAt(at, attr)) {
				want, code = needBy(on, spots, spotAt(at, attr))
			}
			wantNeed(t, b, ag, d, at, attr, want, code)
		}
	}
}

// someAg is right, unless its attributes, at most so many, need too many Eqs.
func someAg(r *rand.Rand, b impl.Bnf, most int) (impl.Ag, bool) {
	var ag impl.Ag
	for i := range r.Intn(most + 1) {
		ag.Attrs = append(ag.Attrs, impl.Attr{Non: r.Intn(len(b.Nons)), Name: oneOf(r, "a", "b", "Cc_1") + strconv.Itoa(i), Down: r.Intn(2) == 0})
	}
	for prod, p := range b.Prods {
		for pos := range len(p.Right) + 1 {
			for attr := range ag.Attrs {
				if isWay(b, ag, prod, pos, attr, pos != 0) {
					ag.Eqs = append(ag.Eqs, someEq(r, b, ag, prod, pos, attr))
				}
			}
		}
	}
	r.Shuffle(len(ag.Eqs), func(i, j int) { ag.Eqs[i], ag.Eqs[j] = ag.Eqs[j], ag.Eqs[i] })
	return ag, len(ag.Eqs) <= impl.MaxEqs
}

// someEq mostly takes few attributes as Args: otherwise nearly all would hang on themselves.
func someEq(r *rand.Rand, b impl.Bnf, ag impl.Ag, prod int, pos int, attr int) impl.Eq {
	others := []impl.Ref{{Pos: -1, N: r.Intn(7) - 3}, {Pos: -1, N: oneOf(r, -impl.MaxValue, 0, 1, impl.MaxValue)}}
	var attrs []impl.Ref
	for from, symbol := range append([]int{b.Prods[prod].Left}, b.Prods[prod].Right...) {
		if symbol < len(b.Terms) {
			others = append(others, impl.Ref{Pos: from})
		}
		for one := range ag.Attrs {
			if isWay(b, ag, prod, from, one, from == 0) {
				attrs = append(attrs, impl.Ref{Pos: from, Attr: one})
			}
		}
	}
	e := impl.Eq{Prod: prod, Pos: pos, Attr: attr, Op: impl.AgCopy + r.Intn(impl.AgIf)}
	for range []int{0, 1, 2, 2, 2, 2, 3}[e.Op] {
		if len(attrs) > 0 && r.Intn(5) < 2 {
			e.Args = append(e.Args, oneOf(r, attrs...))
		} else {
			e.Args = append(e.Args, oneOf(r, others...))
		}
	}
	return e
}

// heights are those of the lowest derivations by the Nons; of one that makes nothing it is very high.
func heights(b impl.Bnf) []int {
	height := slices.Repeat([]int{1 << 20}, len(b.Terms)+len(b.Nons))
	for symbol := range b.Terms {
		height[symbol] = 0
	}
	for range b.Nons {
		for _, p := range b.Prods {
			height[p.Left] = min(height[p.Left], heightBy(height, p))
		}
	}
	return height
}

func heightBy(height []int, p impl.Prod) int {
	highest := 0
	for _, symbol := range p.Right {
		highest = max(highest, height[symbol])
	}
	return highest + 1
}

// someDerivation is one by the start, and how many terminals its word has; none when the start makes nothing, or it came to be too long.
func someDerivation(r *rand.Rand, b impl.Bnf, depth int, longest int) ([]int, int, bool) {
	height := heights(b)
	var d []int
	terms := 0
	var by func(symbol int, depth int) bool
	by = func(symbol int, depth int) bool {
		if symbol < len(b.Terms) {
			terms++
			return true
		}
		var may []int
		for prod, p := range b.Prods {
			if own := heightBy(height, p); p.Left == symbol && own < 1<<20 && (own <= depth || own == height[symbol]) {
				may = append(may, prod)
			}
		}
		if len(may) == 0 || len(d) == longest {
			return false
		}
		prod := oneOf(r, may...)
		d = append(d, prod)
		for _, symbol := range b.Prods[prod].Right {
			if !by(symbol, depth-1) {
				return false
			}
		}
		return true
	}
	done := by(len(b.Terms), depth)
	return d, terms, done
}

func someVals(r *rand.Rand, n int) []int {
	vals := make([]int, n)
	for i := range vals {
		vals[i] = oneOf(r, r.Intn(11)-5, r.Intn(11)-5, 0, impl.MaxValue, -impl.MaxValue, r.Intn(2*impl.MaxValue+1)-impl.MaxValue)
	}
	return vals
}
