package tests

import (
	"math"
	"math/rand"
	"slices"
	"strconv"
	"strings"
	"testing"

	"loop.example/g00037/impl"
)

// twoWays has Nons that stand in one another, both with an attribute of one Name, and all kinds of Args.
func twoWays() (impl.Bnf, impl.Ag) {
	b := plain("xy", "SAB", "S=AxB", "A=yB", "A=", "B=A", "B=x")
	return b, agOf(b, "S.up A.n A.m! B.n B.m!",
		"0: 0.up = if 1.n 2 3.n",
		"0: 1.m = copy 3.n",
		"0: 3.m = copy #-7",
		"1: 0.n = add 2.n 0.m",
		"1: 2.m = sub 0.m 1",
		"2: 0.n = mul 0.m #3",
		"3: 0.n = max 1.n 0.m",
		"3: 1.m = copy 0.m",
		"4: 0.n = max 1 #0",
	)
}

func TestAttributesThatAreRight(t *testing.T) {
	b, ag := rowRules()
	wantRight(t, "a row", b, ag)
	both, bothAg := twoWays()
	wantRight(t, "Nons that stand in one another", both, bothAg)
	wantRight(t, "no attributes at all", b, impl.Ag{})
	wantRight(t, "empty lists", b, impl.Ag{Attrs: []impl.Attr{}, Eqs: []impl.Eq{}})
	none := plain("x", "SA")
	wantRight(t, "attributes of Nons without Prods", none, agOf(none, "S.a S.b! A.a A.c!"))
	empty := plain("", "S", "S=")
	wantRight(t, "an empty Right", empty, agOf(empty, "S.a S.b!", "0: 0.a = copy 0.b"))
	wantRight(t, "an empty Right, and nothing that goes up", empty, agOf(empty, "S.b!"))
	bare := plain("x", "SA", "S=AxA", "A=x")
	wantRight(t, "Nons without attributes", bare, agOf(bare, "S.a S.b!", "0: 0.a = add 2 0.b"))
	wantRight(t, "one that is read by nobody", bare, agOf(bare, "A.a A.b!", "0: 1.b = copy #1", "0: 3.b = copy 1.a", "1: 0.a = copy #2"))
	wantRight(t, "an attribute that its own Eq takes", bare, agOf(bare, "A.a A.b!", "0: 1.b = copy 1.a", "0: 3.b = copy 3.a", "1: 0.a = copy 0.b"))
	long := agOf(bare, "S.a", "0: 0.a = copy #1")
	long.Attrs[0].Name = "A" + strings.Repeat("9", impl.MaxName-1)
	wantRight(t, "the longest name", bare, long)
}

// wrongRow is a way in which rowRules' are not right.
type wrongRow struct {
	why   string
	spoil func(ag *impl.Ag)
}

func wrongRows() []wrongRow {
	return []wrongRow{
		{"an Attr of a Non below all", func(ag *impl.Ag) { ag.Attrs = append(ag.Attrs, impl.Attr{Non: -1, Name: "x"}) }},
		{"an Attr of a Non above all", func(ag *impl.Ag) { ag.Attrs = append(ag.Attrs, impl.Attr{Non: 1, Name: "x"}) }},
		{"an Attr of a symbol", func(ag *impl.Ag) { ag.Attrs[0].Non = 2 }},
		{"no Name", func(ag *impl.Ag) { ag.Attrs[0].Name = "" }},
		{"a Name that begins with a digit", func(ag *impl.Ag) { ag.Attrs[0].Name = "1a" }},
		{"a Name with a blank", func(ag *impl.Ag) { ag.Attrs[1].Name = "a b" }},
		{"a Name that is too long", func(ag *impl.Ag) { ag.Attrs[1].Name = strings.Repeat("a", impl.MaxName+1) }},
		{"a Name twice, the other way", func(ag *impl.Ag) { ag.Attrs[1].Name = ag.Attrs[0].Name }},
		{"a Name twice, the same way", func(ag *impl.Ag) {
			ag.Attrs = append(ag.Attrs, ag.Attrs[0])
			for _, e := range []impl.Eq{ag.Eqs[0], ag.Eqs[2]} {
				e.Attr = 2
				ag.Eqs = append(ag.Eqs, e)
			}
		}},
		{"an Eq for a Prod below all", func(ag *impl.Ag) { ag.Eqs[0].Prod = -1 }},
		{"an Eq for a Prod above all", func(ag *impl.Ag) { ag.Eqs[2].Prod = 2 }},
		{"an Eq for a Pos below all", func(ag *impl.Ag) { ag.Eqs[0].Pos = -1 }},
		{"an Eq for a Pos above all", func(ag *impl.Ag) { ag.Eqs[1].Pos = 3 }},
		{"an Eq for a terminal", func(ag *impl.Ag) { ag.Eqs[1].Pos = 1 }},
		{"one Eq more for a terminal", func(ag *impl.Ag) {
			ag.Eqs = append(ag.Eqs, impl.Eq{Prod: 1, Pos: 1, Attr: 1, Op: impl.AgCopy, Args: []impl.Ref{{Pos: -1}}})
		}},
		{"an Eq for an Attr below all", func(ag *impl.Ag) { ag.Eqs[0].Attr = -1 }},
		{"an Eq for an Attr above all", func(ag *impl.Ag) { ag.Eqs[0].Attr = 2 }},
		{"an Eq for one that goes down at Pos 0", func(ag *impl.Ag) { ag.Eqs[0].Attr = 1 }},
		{"one Eq more for one that goes down at Pos 0", func(ag *impl.Ag) {
			ag.Eqs = append(ag.Eqs, impl.Eq{Prod: 1, Pos: 0, Attr: 1, Op: impl.AgCopy, Args: []impl.Ref{{Pos: -1}}})
		}},
		{"an Eq for one that goes up elsewhere", func(ag *impl.Ag) { ag.Eqs[1].Attr = 0 }},
		{"one Eq more for one that goes up elsewhere", func(ag *impl.Ag) {
			ag.Eqs = append(ag.Eqs, impl.Eq{Prod: 0, Pos: 2, Attr: 0, Op: impl.AgCopy, Args: []impl.Ref{{Pos: -1}}})
		}},
		{"the first Eq lacks", func(ag *impl.Ag) { ag.Eqs = ag.Eqs[1:] }},
		{"the second Eq lacks", func(ag *impl.Ag) { ag.Eqs = slices.Delete(ag.Eqs, 1, 2) }},
		{"the last Eq lacks", func(ag *impl.Ag) { ag.Eqs = ag.Eqs[:2] }},
		{"all Eqs lack", func(ag *impl.Ag) { ag.Eqs = nil }},
		{"all Attrs lack", func(ag *impl.Ag) { ag.Attrs = nil }},
		{"an Eq stands twice", func(ag *impl.Ag) { ag.Eqs = append(ag.Eqs, ag.Eqs[1]) }},
		{"an Eq stands twice, said otherwise", func(ag *impl.Ag) {
			ag.Eqs = append(ag.Eqs, impl.Eq{Prod: 1, Pos: 0, Attr: 0, Op: impl.AgCopy, Args: []impl.Ref{{Pos: -1}}})
		}},
		{"an Eq stands twice, another one lacks", func(ag *impl.Ag) { ag.Eqs[2] = ag.Eqs[0] }},
		{"an Arg that goes up at Pos 0", func(ag *impl.Ag) { ag.Eqs[1].Args[0].Attr = 0 }},
		{"an Arg that goes down elsewhere", func(ag *impl.Ag) { ag.Eqs[0].Args[1].Attr = 1 }},
		{"an Arg of an Attr below all", func(ag *impl.Ag) { ag.Eqs[1].Args[0].Attr = -1 }},
		{"an Arg of an Attr above all", func(ag *impl.Ag) { ag.Eqs[1].Args[0].Attr = 2 }},
		{"an Arg at a Pos below all", func(ag *impl.Ag) { ag.Eqs[2].Args[0].Pos = -2 }},
		{"an Arg at a Pos above all", func(ag *impl.Ag) { ag.Eqs[2].Args[0].Pos = 2 }},
		{"a terminal's value with an N", func(ag *impl.Ag) { ag.Eqs[0].Args[0].N = 1 }},
		{"a terminal's value with an Attr", func(ag *impl.Ag) { ag.Eqs[0].Args[0].Attr = 1 }},
		{"an attribute at Pos 0 with an N", func(ag *impl.Ag) { ag.Eqs[1].Args[0].N = 1 }},
		{"an attribute elsewhere with an N", func(ag *impl.Ag) { ag.Eqs[0].Args[1].N = -1 }},
		{"a number with an Attr", func(ag *impl.Ag) { ag.Eqs[1].Args[1].Attr = 1 }},
		{"a number with an Attr below all", func(ag *impl.Ag) { ag.Eqs[1].Args[1].Attr = -1 }},
		{"a number that is too great", func(ag *impl.Ag) { ag.Eqs[1].Args[1].N = impl.MaxValue + 1 }},
		{"a number that is too low", func(ag *impl.Ag) { ag.Eqs[1].Args[1].N = -impl.MaxValue - 1 }},
		{"an Op below all", func(ag *impl.Ag) { ag.Eqs[0].Op = 0 }},
		{"an Op below all, without Args", func(ag *impl.Ag) { ag.Eqs[0].Op, ag.Eqs[0].Args = 0, nil }},
		{"an Op above all", func(ag *impl.Ag) { ag.Eqs[0].Op = impl.AgIf + 1 }},
		{"an Op above all, without Args", func(ag *impl.Ag) { ag.Eqs[0].Op, ag.Eqs[0].Args = impl.AgIf+1, nil }},
		{"no Args", func(ag *impl.Ag) { ag.Eqs[0].Args = nil }},
		{"the last Arg of several is wrong", func(ag *impl.Ag) {
			ag.Eqs[0].Op, ag.Eqs[0].Args = impl.AgIf, append(ag.Eqs[0].Args, impl.Ref{Pos: 2, Attr: 1})
		}},
	}
}

func TestAttributesThatAreNotRight(t *testing.T) {
	for _, s := range wrongRows() {
		b, ag := rowRules()
		s.spoil(&ag)
		if agRight(b, ag) {
			t.Error("the model takes it:", s.why)
		}
		noAg(t, s.why, b, ag, []int{0, 1}, []int{1, 2})
	}
	b, ag := twoWays()
	ag.Eqs[0].Args[0].Attr = 3
	noAg(t, "an Arg of another Non", b, ag, []int{0, 2, 4}, []int{1, 2})
	b, ag = twoWays()
	ag.Eqs[1].Attr = 4
	noAg(t, "an Eq for an Attr of another Non", b, ag, []int{0, 2, 4}, []int{1, 2})
}

// Each Op has its number of Args: none fewer, and none more.
func TestOpsAndTheirArgs(t *testing.T) {
	b := plain("x", "S", "S=x")
	for op := -1; op <= impl.AgIf+2; op++ {
		for n := range 6 {
			ag := agOf(b, "S.a")
			ag.Eqs = []impl.Eq{{Op: op, Args: slices.Repeat([]impl.Ref{{Pos: 1}}, n)}}
			right := op == impl.AgCopy && n == 1 || op >= impl.AgAdd && op <= impl.AgMax && n == 2 || op == impl.AgIf && n == 3
			if right {
				wantRight(t, "Op "+strconv.Itoa(op), b, ag)
			} else {
				noAg(t, "Op "+strconv.Itoa(op)+" with "+strconv.Itoa(n), b, ag, []int{0}, []int{1})
			}
		}
	}
}

func TestRulesThatAreNotRightWithAttributes(t *testing.T) {
	for why, spoil := range map[string]func(b *impl.Bnf){
		"a Name of Terms twice":        func(b *impl.Bnf) { b.Terms[1].Name = b.Terms[0].Name },
		"a Level without an Assoc":     func(b *impl.Bnf) { b.Terms[0].Level = 1 },
		"Own 0":                        func(b *impl.Bnf) { b.Own = 0 },
		"Own more than Nons":           func(b *impl.Bnf) { b.Own = 2 },
		"a Label that is no name":      func(b *impl.Bnf) { b.Prods[0].Label = "?" },
		"a Left that is a terminal":    func(b *impl.Bnf) { b.Prods[1].Left = 1 },
		"a symbol above all":           func(b *impl.Bnf) { b.Prods[0].Right[0] = 3 },
		"a symbol below all":           func(b *impl.Bnf) { b.Prods[0].Right[0] = -1 },
		"a Right that is too long":     func(b *impl.Bnf) { b.Prods[1].Right = make([]int, impl.MaxRight+1) },
		"no Nons":                      func(b *impl.Bnf) { b.Nons, b.Own = nil, 0 },
		"a Prod's Assoc without Level": func(b *impl.Bnf) { b.Prods[0].Assoc = impl.AsLeft },
	} {
		b, ag := rowRules()
		spoil(&b)
		noAg(t, why, b, ag, []int{0, 1}, []int{1, 2})
		noAg(t, why+", without attributes", b, impl.Ag{}, []int{0, 1}, []int{1, 2})
	}
	noAg(t, "nothing at all", impl.Bnf{}, impl.Ag{}, nil, nil)
}

// manyAttrs has n attributes, of two Nons, all right.
func manyAttrs(n int) (impl.Bnf, impl.Ag) {
	b := plain("x", "SA", "S=Ax", "A=x")
	var ag impl.Ag
	for i := range n {
		ag.Attrs = append(ag.Attrs, impl.Attr{Non: i % 2, Name: "a" + strconv.Itoa(i), Down: i%4 > 1})
		switch i % 4 {
		case 0:
			ag.Eqs = append(ag.Eqs, impl.Eq{Attr: i, Op: impl.AgCopy, Args: []impl.Ref{{Pos: -1, N: i}}})
		case 1:
			ag.Eqs = append(ag.Eqs, impl.Eq{Prod: 1, Attr: i, Op: impl.AgCopy, Args: []impl.Ref{{Pos: -1, N: i}}})
		case 3:
			ag.Eqs = append(ag.Eqs, impl.Eq{Pos: 1, Attr: i, Op: impl.AgCopy, Args: []impl.Ref{{Pos: -1, N: i}}})
		}
	}
	return b, ag
}

// manyEqs has n Eqs, all right: three for each Prod of the start, behind those of another Non with one.
func manyEqs(n int) (impl.Bnf, impl.Ag) {
	b := plain("x", "SA")
	ag := agOf(b, "S.a S.b S.c A.a")
	for n%3 > 0 {
		ag.Eqs = append(ag.Eqs, impl.Eq{Prod: len(b.Prods), Attr: 3, Op: impl.AgCopy, Args: []impl.Ref{{Pos: -1}}})
		b.Prods = append(b.Prods, impl.Prod{Left: 2})
		n--
	}
	for ; n > 0; n -= 3 {
		for attr := range 3 {
			ag.Eqs = append(ag.Eqs, impl.Eq{Prod: len(b.Prods), Attr: attr, Op: impl.AgCopy, Args: []impl.Ref{{Pos: -1, N: n}}})
		}
		b.Prods = append(b.Prods, impl.Prod{Left: 1})
	}
	return b, ag
}

func TestAsManyAttributesAsThereMayBe(t *testing.T) {
	for _, n := range []int{impl.MaxAttrs - 1, impl.MaxAttrs} {
		b, ag := manyAttrs(n)
		wantRight(t, "many Attrs", b, ag)
		values, code := impl.AgEval(b, ag, []int{0, 1}, []int{5, 6})
		if want, _ := valuesBy(b, ag, []int{0, 1}, []int{5, 6}); len(values) != n || !slices.Equal(values, want) || code != impl.OK {
			t.Error(n, values, code)
		}
		wantStrong(t, b, ag, true)
		wantNeeds(t, b, ag, []int{0, 1})
	}
	b, ag := manyAttrs(impl.MaxAttrs + 1)
	noAg(t, "one Attr too many", b, ag, []int{0, 1}, []int{5, 6})
	b, ag = manyAttrs(100 * impl.MaxAttrs)
	noAg(t, "far too many Attrs", b, ag, []int{0, 1}, []int{5, 6})
}

func TestAsManyEqsAsThereMayBe(t *testing.T) {
	for _, n := range []int{impl.MaxEqs - 1, impl.MaxEqs} {
		b, ag := manyEqs(n)
		wantRight(t, "many Eqs", b, ag)
		if len(ag.Eqs) != n {
			t.Fatal(len(ag.Eqs))
		}
		last := len(b.Prods) - 1
		wantValues(t, b, ag, []int{last}, nil, []int{3, 3, 3}, impl.OK)
		wantStrong(t, b, ag, true)
		wantNeed(t, b, ag, []int{last}, 0, 2, 1, impl.OK)
	}
	b, ag := manyEqs(impl.MaxEqs + 1)
	if len(ag.Eqs) != impl.MaxEqs+1 || !impl.BnfOK(b) {
		t.Fatal(len(ag.Eqs))
	}
	noAg(t, "one Eq too many", b, ag, []int{len(b.Prods) - 1}, nil)
	for range 5 {
		ag.Eqs = append(ag.Eqs, ag.Eqs...)
	}
	noAg(t, "far too many Eqs", b, ag, []int{len(b.Prods) - 1}, nil)
}

func TestNumbersInArgs(t *testing.T) {
	b := plain("x", "S", "S=x")
	for _, n := range []int{0, 1, -1, impl.MaxValue - 1, impl.MaxValue, -impl.MaxValue, 1 - impl.MaxValue} {
		ag := agOf(b, "S.a", "0: 0.a = copy #"+strconv.Itoa(n))
		wantRight(t, "a number", b, ag)
		wantValues(t, b, ag, []int{0}, []int{1}, []int{n}, impl.OK)
	}
	for _, n := range []int{impl.MaxValue + 1, -impl.MaxValue - 1, math.MaxInt, math.MinInt} {
		noAg(t, "a number", b, agOf(b, "S.a", "0: 0.a = copy #"+strconv.Itoa(n)), []int{0}, []int{1})
		noAg(t, "a last number", b, agOf(b, "S.a", "0: 0.a = if #0 #1 #"+strconv.Itoa(n)), []int{0}, []int{1})
	}
}

// fields are all numbers of an Ag.
func fields(ag *impl.Ag) []*int {
	var list []*int
	for i := range ag.Attrs {
		list = append(list, &ag.Attrs[i].Non)
	}
	for i := range ag.Eqs {
		e := &ag.Eqs[i]
		list = append(list, &e.Prod, &e.Pos, &e.Attr, &e.Op)
		for k := range e.Args {
			list = append(list, &e.Args[k].Pos, &e.Args[k].Attr, &e.Args[k].N)
		}
	}
	return list
}

// Each number of it is changed to each one around what there is, and to the outermost ones.
func TestEachNumberOfAnAgChanged(t *testing.T) {
	met := map[bool]int{}
	numbers := []int{math.MinInt, math.MaxInt, math.MinInt + 1, math.MaxInt - 1, impl.MaxValue, impl.MaxValue + 1}
	for n := -3; n <= 9; n++ {
		numbers = append(numbers, n)
	}
	for _, rules := range []func() (impl.Bnf, impl.Ag){rowRules, twoWays} {
		_, whole := rules()
		for i := range fields(&whole) {
			for _, n := range numbers {
				b, ag := rules()
				*fields(&ag)[i] = n
				right := impl.AgOK(b, ag)
				if right != agRight(b, ag) {
					t.Errorf("AgOK is %v of %s", right, shownAg(b, ag))
				}
				met[right]++
			}
		}
	}
	if met[true] < 20 || met[false] < 500 {
		t.Error("too few of a kind:", met)
	}
}

// someChange is mostly one of those that leave it right, or nearly.
func someChange(r *rand.Rand, ag *impl.Ag) {
	list := fields(ag)
	if len(list) == 0 {
		return
	}
	switch i := r.Intn(len(ag.Attrs) + len(ag.Eqs)); r.Intn(6) {
	case 0:
		if i < len(ag.Eqs) {
			ag.Eqs = slices.Delete(ag.Eqs, i, i+1)
		}
	case 1:
		if i < len(ag.Eqs) {
			ag.Eqs[i] = ag.Eqs[r.Intn(len(ag.Eqs))]
		}
	case 2:
		if i < len(ag.Attrs) {
			ag.Attrs[i].Down = !ag.Attrs[i].Down
		}
	case 3:
		if i < len(ag.Attrs) {
			ag.Attrs[i].Name = ag.Attrs[r.Intn(len(ag.Attrs))].Name
		}
	default:
		*oneOf(r, list...) += oneOf(r, -1, 1, 2)
	}
}

func TestManyAgsAreRightOrNot(t *testing.T) {
	r := rand.New(rand.NewSource(101))
	met := map[bool]int{}
	for _, b := range manyRules(3000) {
		ag, fits := someAg(r, b, 6)
		if fits {
			wantRight(t, "made so", b, ag)
		}
		for range r.Intn(3) {
			someChange(r, &ag)
		}
		right := impl.AgOK(b, ag)
		if right != agRight(b, ag) {
			t.Fatalf("AgOK is %v of %s", right, shownAg(b, ag))
		}
		met[right]++
	}
	if met[true] < 500 || met[false] < 500 {
		t.Error("too few of a kind:", met)
	}
}
