package tests

import (
	"math"
	"math/rand"
	"slices"
	"strconv"
	"testing"

	"loop.example/g00037/impl"
)

const valueLimit = impl.MaxValue

func TestValuesOfARow(t *testing.T) {
	b, ag := rowRules()
	wantValues(t, b, ag, []int{1}, []int{9}, []int{0, 0}, impl.OK)
	wantValues(t, b, ag, []int{0, 1}, []int{3, 9}, []int{12, 0, 9, 1}, impl.OK)
	wantValues(t, b, ag, []int{0, 0, 0, 1}, []int{1, 2, 3, -4}, []int{-6, 0, -7, 1, -9, 2, -12, 3}, impl.OK)
	// The order of Attrs is that of the values, whatever the order of the Eqs is.
	other := agOf(b, "L.place! L.sum",
		"1: 0.sum = mul 1 0.place",
		"0: 2.place = add 0.place #1",
		"0: 0.sum = add 1 2.sum",
	)
	wantValues(t, b, other, []int{0, 1}, []int{3, 9}, []int{0, 12, 1, 9}, impl.OK)
}

// A binary number: of 1101.01 each digit has its scale from where it stands, and the length of what stands behind the point counts from its end.
func TestValuesOfANumberWithAPoint(t *testing.T) {
	b := plain("01.", "NLB", "N=L", "N=L.L", "L=B", "L=LB", "B=0", "B=1")
	ag := agOf(b, "N.v L.v L.len L.scale! B.v B.scale!",
		"0: 0.v = copy 1.v",
		"0: 1.scale = copy #1024",
		"1: 0.v = add 1.v 3.v",
		"1: 1.scale = copy #1024",
		"1: 3.scale = if 3.len #256 #0",
		"2: 0.v = copy 1.v",
		"2: 0.len = copy #1",
		"2: 1.scale = copy 0.scale",
		"3: 0.v = add 1.v 2.v",
		"3: 0.len = add 1.len #1",
		"3: 1.scale = mul 0.scale #2",
		"3: 2.scale = copy 0.scale",
		"4: 0.v = copy #0",
		"5: 0.v = copy 0.scale",
	)
	wantRight(t, "numbers", b, ag)
	wantStrong(t, b, ag, true)
	d := []int{1, 3, 3, 3, 2, 5, 5, 4, 5, 3, 2, 4, 5}
	values, code := impl.AgEval(b, ag, d, make([]int, 7))
	// 13 and a quarter, in parts of 1024.
	if code != impl.OK || len(values) != 1+6*3+6*2 || values[0] != 13*1024+256 {
		t.Error(values, code)
	}
	wantModel(t, b, ag, d, make([]int, 7))
	wantNeeds(t, b, ag, d)
}

// Nons that stand in one another, one of them empty: all by hand.
func TestValuesOfNonsThatStandInOneAnother(t *testing.T) {
	b, ag := twoWays()
	// S = A x B, A = empty, B = x: what B has goes down into A.
	wantValues(t, b, ag, []int{0, 2, 4}, []int{5, 6}, []int{5, 18, 6, 6, -7}, impl.OK)
	// What A has is 0: then it is what B has.
	wantValues(t, b, ag, []int{0, 2, 4}, []int{5, -6}, []int{0, 0, 0, 0, -7}, impl.OK)
	// S = A x B, A = y B, B = A, A = empty; B = x.
	wantValues(t, b, ag, []int{0, 1, 3, 2, 4}, []int{2, 5, 6}, []int{5, 18, 6, 12, 4, 12, 4, 6, -7}, impl.OK)
}

func TestEachOp(t *testing.T) {
	b := plain("xyz", "S", "S=xyz")
	for _, x := range []struct {
		eq   string
		vals [3]int
		want int
	}{
		{"copy 1", [3]int{4, 5, 6}, 4}, {"copy 3", [3]int{4, 5, 6}, 6}, {"copy #9", [3]int{4, 5, 6}, 9}, {"copy 1", [3]int{-valueLimit, 0, 0}, -valueLimit}, {"copy 1", [3]int{valueLimit, 0, 0}, valueLimit}, {"copy 0.d", [3]int{4, 5, 6}, 0},
		{"add 1 2", [3]int{4, 5, 6}, 9}, {"add 1 2", [3]int{4, -5, 6}, -1}, {"add 1 1", [3]int{4, 5, 6}, 8},
		{"add 1 2", [3]int{valueLimit, 0, 0}, valueLimit}, {"add 1 2", [3]int{valueLimit - 1, 1, 0}, valueLimit}, {"add 1 2", [3]int{valueLimit, 1, 0}, valueLimit}, {"add 1 2", [3]int{valueLimit, valueLimit, 0}, valueLimit}, {"add 1 2", [3]int{-valueLimit, 0, 0}, -valueLimit}, {"add 1 2", [3]int{1 - valueLimit, -1, 0}, -valueLimit}, {"add 1 2", [3]int{-valueLimit, -1, 0}, -valueLimit}, {"add 1 2", [3]int{-valueLimit, -valueLimit, 0}, -valueLimit}, {"add 1 2", [3]int{valueLimit, -valueLimit, 0}, 0}, {"add #1 2", [3]int{0, valueLimit, 0}, valueLimit}, {"add #-1 #-1000000000", [3]int{}, -valueLimit},
		{"sub 1 2", [3]int{4, 5, 6}, -1}, {"sub 2 1", [3]int{4, 5, 6}, 1}, {"sub 1 2", [3]int{4, -5, 6}, 9},
		{"sub 1 2", [3]int{valueLimit, -1, 0}, valueLimit}, {"sub 1 2", [3]int{valueLimit - 1, -1, 0}, valueLimit}, {"sub 1 2", [3]int{valueLimit, -valueLimit, 0}, valueLimit}, {"sub 1 2", [3]int{-valueLimit, 1, 0}, -valueLimit}, {"sub 1 2", [3]int{1 - valueLimit, 1, 0}, -valueLimit}, {"sub 1 2", [3]int{-valueLimit, valueLimit, 0}, -valueLimit}, {"sub 1 2", [3]int{-valueLimit, -valueLimit, 0}, 0}, {"sub 1 1", [3]int{valueLimit, 0, 0}, 0}, {"sub #0 1", [3]int{-valueLimit, 0, 0}, valueLimit},
		{"mul 1 2", [3]int{4, 5, 6}, 20}, {"mul 1 2", [3]int{-4, 5, 6}, -20}, {"mul 1 2", [3]int{-4, -5, 6}, 20}, {"mul 1 2", [3]int{0, valueLimit, 0}, 0}, {"mul 1 2", [3]int{-1, valueLimit, 0}, -valueLimit},
		{"mul 1 2", [3]int{2, valueLimit / 2, 0}, valueLimit}, {"mul 1 2", [3]int{2, valueLimit/2 + 1, 0}, valueLimit}, {"mul 1 2", [3]int{-2, valueLimit / 2, 0}, -valueLimit}, {"mul 1 2", [3]int{-2, valueLimit/2 + 1, 0}, -valueLimit}, {"mul 1 2", [3]int{valueLimit, valueLimit, 0}, valueLimit}, {"mul 1 2", [3]int{-valueLimit, -valueLimit, 0}, valueLimit}, {"mul 1 2", [3]int{valueLimit, -valueLimit, 0}, -valueLimit}, {"mul 1 2", [3]int{-valueLimit, valueLimit, 0}, -valueLimit}, {"mul 1 1", [3]int{31623, 0, 0}, valueLimit}, {"mul 1 1", [3]int{31622, 0, 0}, 999950884},
		{"max 1 2", [3]int{4, 5, 6}, 5}, {"max 2 1", [3]int{4, 5, 6}, 5}, {"max 1 2", [3]int{-4, -5, 6}, -4}, {"max 1 2", [3]int{5, 5, 6}, 5}, {"max 1 2", [3]int{-valueLimit, valueLimit, 0}, valueLimit}, {"max 1 2", [3]int{-valueLimit, -valueLimit, 0}, -valueLimit}, {"max 1 #0", [3]int{-4, 5, 6}, 0},
		{"if 1 2 3", [3]int{0, 5, 6}, 6}, {"if 1 2 3", [3]int{1, 5, 6}, 5}, {"if 1 2 3", [3]int{-1, 5, 6}, 5}, {"if 1 2 3", [3]int{valueLimit, 5, 6}, 5}, {"if 1 2 3", [3]int{-valueLimit, 5, 6}, 5}, {"if 1 2 3", [3]int{1, 0, 6}, 0}, {"if 1 2 3", [3]int{0, 5, 0}, 0}, {"if 0.d 2 3", [3]int{1, 5, 6}, 6}, {"if #0 2 3", [3]int{1, 5, 6}, 6}, {"if #1 2 3", [3]int{0, 5, 6}, 5}, {"if 1 #7 3", [3]int{1, 5, 6}, 7}, {"if 1 2 0.d", [3]int{0, 5, 6}, 0}, {"if 1 2 3", [3]int{0, 5, -valueLimit}, -valueLimit},
	} {
		ag := agOf(b, "S.d! S.a", "0: 0.a = "+x.eq)
		wantValues(t, b, ag, []int{0}, x.vals[:], []int{0, x.want}, impl.OK)
	}
}

// What is brought in at one place goes on from there as it is.
func TestValuesThatAreBroughtInOnTheWay(t *testing.T) {
	b := plain("x", "L", "L=xL", "L=")
	ag := agOf(b, "L.sum L.power!",
		"0: 0.sum = sub 2.sum #1",
		"0: 2.power = mul 1 #1000",
		"1: 0.sum = add 0.power 0.power",
	)
	wantValues(t, b, ag, []int{0, 0, 1}, []int{7, valueLimit}, []int{valueLimit - 2, 0, valueLimit - 1, 7000, valueLimit, valueLimit}, impl.OK)
	wantValues(t, b, ag, []int{0, 0, 1}, []int{-valueLimit, -valueLimit}, []int{-valueLimit, 0, -valueLimit, -valueLimit, -valueLimit, -valueLimit}, impl.OK)
	wantValues(t, b, ag, []int{1}, nil, []int{0, 0}, impl.OK)
}

// At the first Prod what goes down is 0, and where the same Non stands below it is what the Prod above says.
func TestWhatGoesDownAtTheFirstProd(t *testing.T) {
	b := plain("xy", "S", "S=xSS", "S=y", "S=")
	ag := agOf(b, "S.a! S.b! S.u",
		"0: 2.a = add 0.a #1",
		"0: 2.b = copy 1",
		"0: 3.a = sub 0.a #1",
		"0: 3.b = copy 2.u",
		"0: 0.u = max 0.a 3.u",
		"1: 0.u = add 0.a 0.b",
		"2: 0.u = sub 0.a 0.b",
	)
	wantRight(t, "two that go down", b, ag)
	wantValues(t, b, ag, []int{1}, []int{8}, []int{0, 0, 0}, impl.OK)
	wantValues(t, b, ag, []int{2}, nil, []int{0, 0, 0}, impl.OK)
	wantValues(t, b, ag, []int{0, 1, 2}, []int{5, 8}, []int{0, 0, 0, 1, 5, 6, -1, 6, -7}, impl.OK)
	wantValues(t, b, ag, []int{0, 2, 0, 1, 2}, []int{5, 6, 7}, []int{0, 0, 0, 1, 5, -4, -1, -4, -1, 0, 6, 6, -2, 6, -8}, impl.OK)
}

func TestValuesWithoutAttributes(t *testing.T) {
	b, _ := rowRules()
	wantValues(t, b, impl.Ag{}, []int{0, 0, 1}, []int{1, 2, 3}, nil, impl.OK)
	// All the faults are looked for all the same.
	wantValues(t, b, impl.Ag{}, []int{0, 0, 1}, []int{1, 2}, nil, impl.ErrPlace)
	wantValues(t, b, impl.Ag{}, []int{0, 0}, []int{1, 2}, nil, impl.ErrText)
	wantNeed(t, b, impl.Ag{}, []int{0, 1}, 0, 0, 0, impl.ErrPlace)
	bare := plain("x", "SAB", "S=AB", "A=xB", "B=", "B=x")
	ag := agOf(bare, "B.v B.n! S.v", "0: 0.v = sub 2.v #1", "0: 2.n = copy #5", "1: 2.n = copy 1", "2: 0.v = add 0.n #1", "3: 0.v = mul 1 0.n")
	wantValues(t, bare, ag, []int{0, 1, 2, 3}, []int{6, 7}, []int{34, 7, 6, 35, 5}, impl.OK)
}

// Each terminal has its value by its place in the word, also where Nons stand between.
func TestValuesOfTerminals(t *testing.T) {
	b := plain("x", "SA", "S=xAxAx", "A=xx", "A=")
	ag := agOf(b, "S.a S.b S.c A.a A.b",
		"0: 0.a = copy 1", "0: 0.b = copy 3", "0: 0.c = copy 5",
		"1: 0.a = copy 1", "1: 0.b = copy 2",
		"2: 0.a = copy #-1", "2: 0.b = copy #-2",
	)
	wantValues(t, b, ag, []int{0, 1, 1}, []int{10, 11, 12, 13, 14, 15, 16}, []int{10, 13, 16, 11, 12, 14, 15}, impl.OK)
	wantValues(t, b, ag, []int{0, 2, 1}, []int{10, 11, 12, 13, 14}, []int{10, 11, 14, -1, -2, 12, 13}, impl.OK)
	wantValues(t, b, ag, []int{0, 1, 2}, []int{10, 11, 12, 13, 14}, []int{10, 13, 14, 11, 12, -1, -2}, impl.OK)
}

// deepRow has a row of n Prods, the last of which ends it.
func deepRow(n int) ([]int, []int) {
	return append(make([]int, n-1), 1), slices.Repeat([]int{1}, n)
}

func TestLongestDerivationWithAttributes(t *testing.T) {
	b, ag := rowRules()
	for _, n := range []int{impl.MaxDeriv - 1, impl.MaxDeriv} {
		d, vals := deepRow(n)
		values, code := impl.AgEval(b, ag, d, vals)
		if code != impl.OK || len(values) != 2*n {
			t.Fatal(n, len(values), code)
		}
		for place := range n {
			// From here on so many x, and the y times the place of the last one.
			if values[2*place] != n-1-place+n-1 || values[2*place+1] != place {
				t.Fatal(n, place, values[2*place:2*place+2])
			}
		}
		wantNeed(t, b, ag, d, 0, 0, 2*n, impl.OK)
		wantNeed(t, b, ag, d, n-1, 1, n, impl.OK)
		wantNeed(t, b, ag, d, n-1, 0, n+1, impl.OK)
		wantNeed(t, b, ag, d, n, 0, 0, impl.ErrPlace)
	}
	d, vals := deepRow(impl.MaxDeriv + 1)
	wantValues(t, b, ag, d, vals, nil, impl.ErrBad)
	wantNeed(t, b, ag, d, 0, 0, 0, impl.ErrBad)
	wantValues(t, b, ag, make([]int, impl.MaxDeriv), nil, nil, impl.ErrText)
	// A word that is longer than any that Yield tells.
	wide := plain("x", "SA", "S=AAAAAAAAAAAA", "A=xxxxxxxxxxxx", "A=S")
	sum := agOf(wide, "A.n A.m", "1: 0.n = add 1 12", "1: 0.m = copy 6", "2: 0.n = copy #0", "2: 0.m = copy #0")
	d, vals = []int{0}, nil
	for range 11 {
		d = append(append(d, 2, 0), slices.Repeat([]int{1}, 12)...)
	}
	d = append(d, 1)
	for i := range 133 * 12 {
		vals = append(vals, i)
	}
	values, code := impl.AgEval(wide, sum, d, vals)
	if want, _ := valuesBy(wide, sum, d, vals); code != impl.OK || !slices.Equal(values, want) || values[len(values)-1] != 132*12+5 {
		t.Error(code, len(values))
	}
	wantValues(t, wide, sum, d, vals[1:], nil, impl.ErrPlace)
}

// zigzag has attributes that hang on one another all the way down and up the longest row, again and again: what goes down the next time is what came up before.
func zigzag() (impl.Bnf, impl.Ag, []int) {
	b := plain("xy", "SL", "S=L", "L=xL", "L=y")
	var ag impl.Ag
	for i := range impl.MaxAttrs / 2 {
		ag.Attrs = append(ag.Attrs, impl.Attr{Non: 1, Name: "d" + strconv.Itoa(i), Down: true}, impl.Attr{Non: 1, Name: "u" + strconv.Itoa(i)})
	}
	for down := 0; down < impl.MaxAttrs; down += 2 {
		top := impl.Eq{Prod: 0, Pos: 1, Attr: down, Op: impl.AgCopy, Args: []impl.Ref{{Pos: 1, Attr: down - 1}}}
		if down == 0 {
			top.Args[0] = impl.Ref{Pos: -1, N: 1}
		}
		ag.Eqs = append(ag.Eqs, top,
			impl.Eq{Prod: 1, Pos: 2, Attr: down, Op: impl.AgAdd, Args: []impl.Ref{{Pos: 0, Attr: down}, {Pos: -1, N: 1}}},
			impl.Eq{Prod: 1, Pos: 0, Attr: down + 1, Op: impl.AgAdd, Args: []impl.Ref{{Pos: 2, Attr: down + 1}, {Pos: -1, N: 1}}},
			impl.Eq{Prod: 2, Pos: 0, Attr: down + 1, Op: impl.AgAdd, Args: []impl.Ref{{Pos: 0, Attr: down}, {Pos: -1, N: 1}}},
		)
	}
	d := append([]int{0}, slices.Repeat([]int{1}, impl.MaxDeriv-2)...)
	return b, ag, append(d, 2)
}

func TestTheLongestWayThatAnAttributeHangs(t *testing.T) {
	b, ag, d := zigzag()
	wantRight(t, "zigzag", b, ag)
	wantStrong(t, b, ag, true)
	vals := make([]int, impl.MaxDeriv-1)
	values, code := impl.AgEval(b, ag, d, vals)
	all := (impl.MaxDeriv - 1) * impl.MaxAttrs
	// Each one is one more than the one that it hangs on, but at the top, where what goes down is what came up.
	if code != impl.OK || len(values) != all || values[impl.MaxAttrs-1] != all-impl.MaxAttrs/2+1 || values[0] != 1 {
		t.Error(code, len(values))
	}
	wantNeed(t, b, ag, d, 1, impl.MaxAttrs-1, all, impl.OK)
	// With the last one leading back to the first, all of them hang on themselves.
	ag.Eqs[0].Args[0] = impl.Ref{Pos: 1, Attr: impl.MaxAttrs - 1}
	wantStrong(t, b, ag, false)
	wantValues(t, b, ag, d, vals, nil, impl.ErrLoop)
	wantNeed(t, b, ag, d, 2000, 7, 0, impl.ErrLoop)
}

func TestValuesAtTheirLimits(t *testing.T) {
	b, ag := rowRules()
	for _, v := range []int{valueLimit, -valueLimit, valueLimit - 1, 1 - valueLimit} {
		wantValues(t, b, ag, []int{0, 1}, []int{0, v}, []int{v, 0, v, 1}, impl.OK)
		wantValues(t, b, ag, []int{0, 1}, []int{v, 0}, []int{v, 0, 0, 1}, impl.OK)
	}
	for _, v := range []int{valueLimit + 1, -valueLimit - 1, math.MaxInt, math.MinInt} {
		for i := range 3 {
			vals := []int{1, 2, 3}
			vals[i] = v
			wantValues(t, b, ag, []int{0, 0, 1}, vals, nil, impl.ErrBad)
		}
	}
}

// notDerived are lists that are no derivations of a row.
func notDerived() [][]int {
	return [][]int{nil, {}, {0}, {0, 0}, {1, 1}, {1, 0}, {0, 1, 1}, {0, 1, 0, 1}, {2}, {-1}, {0, 2}, {0, -1}, {0, 1, -1}, {math.MaxInt}, {math.MinInt}, {0, math.MaxInt}}
}

func TestListsThatAreNoDerivations(t *testing.T) {
	b, ag := rowRules()
	for _, d := range notDerived() {
		for n := range 4 {
			wantValues(t, b, ag, d, make([]int, n), nil, impl.ErrText)
		}
		wantNeed(t, b, ag, d, 0, 0, 0, impl.ErrText)
	}
	both, bothAg := twoWays()
	// By another Non than the start, and with another Non in a place.
	for _, d := range [][]int{{4}, {2}, {0, 4, 4}, {0, 2, 2}, {0, 4, 2}, {0, 2}, {0, 2, 3}, {0, 2, 4, 4}} {
		wantValues(t, both, bothAg, d, []int{1, 2}, nil, impl.ErrText)
		wantNeed(t, both, bothAg, d, 0, 0, 0, impl.ErrText)
	}
}

func TestTooFewAndTooManyValues(t *testing.T) {
	b, ag := rowRules()
	for n := range 6 {
		code, want := impl.ErrPlace, []int(nil)
		if n == 3 {
			code, want = impl.OK, []int{0, 0, 0, 1, 0, 2}
		}
		wantValues(t, b, ag, []int{0, 0, 1}, make([]int, n), want, code)
	}
	wantValues(t, b, ag, []int{0, 0, 1}, make([]int, 100000), nil, impl.ErrPlace)
	empty := plain("", "S", "S=")
	one := agOf(empty, "S.a", "0: 0.a = copy #4")
	wantValues(t, empty, one, []int{0}, nil, []int{4}, impl.OK)
	wantValues(t, empty, one, []int{0}, []int{}, []int{4}, impl.OK)
	wantValues(t, empty, one, []int{0}, []int{1}, nil, impl.ErrPlace)
}

// Each fault with all that are told behind it.
func TestWhichFaultOfValuesIsFirst(t *testing.T) {
	b, ag := rowRules()
	wrong := copyAg(ag)
	wrong.Eqs[0].Op = 0
	loops := agOf(b, "L.sum L.place!", "0: 0.sum = add 1 2.sum", "0: 2.place = copy 2.sum", "1: 0.sum = mul 1 0.place")
	long := make([]int, impl.MaxDeriv+1)
	for _, x := range []struct {
		ag   impl.Ag
		d    []int
		vals []int
		code int
	}{
		{wrong, []int{0, 1}, []int{1, 2}, impl.ErrBad}, {wrong, []int{0}, []int{1, 2}, impl.ErrBad}, {wrong, []int{0, 1}, []int{1}, impl.ErrBad}, {wrong, long, []int{valueLimit + 1}, impl.ErrBad},
		{ag, long, []int{1}, impl.ErrBad}, {loops, long, nil, impl.ErrBad}, {ag, append(long, -1), nil, impl.ErrBad},
		{ag, []int{0}, []int{valueLimit + 1}, impl.ErrBad}, {ag, []int{0, 1}, []int{-valueLimit - 1}, impl.ErrBad}, {loops, []int{0, 1}, []int{1, valueLimit + 1}, impl.ErrBad}, {loops, []int{0}, []int{valueLimit + 1, 2, 3}, impl.ErrBad}, {ag, nil, []int{valueLimit + 1}, impl.ErrBad},
		{loops, []int{0}, []int{1, 2}, impl.ErrText}, {loops, []int{0}, nil, impl.ErrText}, {ag, []int{0, 0}, []int{1}, impl.ErrText},
		{loops, []int{0, 1}, []int{1}, impl.ErrPlace}, {loops, []int{0, 1}, []int{1, 2, 3}, impl.ErrPlace}, {loops, []int{0, 1}, nil, impl.ErrPlace},
		{loops, []int{0, 1}, []int{1, 2}, impl.ErrLoop},
	} {
		wantValues(t, b, x.ag, x.d, x.vals, nil, x.code)
	}
	for _, at := range []int{-1, 0, 1, 2, math.MaxInt} {
		for _, attr := range []int{-1, 0, 1, 2, math.MaxInt} {
			wantNeed(t, b, wrong, []int{0, 1}, at, attr, 0, impl.ErrBad)
			wantNeed(t, b, wrong, []int{0}, at, attr, 0, impl.ErrBad)
			wantNeed(t, b, loops, long, at, attr, 0, impl.ErrBad)
			wantNeed(t, b, loops, []int{0}, at, attr, 0, impl.ErrText)
			if at != 0 && at != 1 || attr != 0 && attr != 1 {
				wantNeed(t, b, loops, []int{0, 1}, at, attr, 0, impl.ErrPlace)
			}
		}
	}
	wantNeed(t, b, loops, []int{0, 1}, 1, 0, 0, impl.ErrLoop)
}

// Promise 16, its first half: values are what their Eqs say.
func TestValuesAreWhatTheirEqsSay(t *testing.T) {
	r := rand.New(rand.NewSource(102))
	met := map[int]int{}
	values := 0
	for _, b := range manyRules(4000) {
		ag, fits := someAg(r, b, 8)
		if !fits {
			continue
		}
		for range 3 {
			d, terms, done := someDerivation(r, b, 2+r.Intn(6), 60)
			if !done {
				continue
			}
			vals := someVals(r, terms)
			code := wantModel(t, b, ag, d, vals)
			met[code]++
			if code == impl.OK {
				list, _ := impl.AgEval(b, ag, d, vals)
				values += len(list)
			}
		}
	}
	if met[impl.OK] < 2000 || met[impl.ErrLoop] < 200 || values < 10000 {
		t.Error("too few of a kind:", met, values)
	}
}

// roomyAg is a copy with spare room behind each list, and what stands there.
func roomyAg(ag impl.Ag) impl.Ag {
	c := impl.Ag{Attrs: append(slices.Clone(ag.Attrs), impl.Attr{Name: "Spare"}), Eqs: append(slices.Clone(ag.Eqs), impl.Eq{Prod: -9})}
	for i := range c.Eqs {
		c.Eqs[i].Args = append(slices.Clone(c.Eqs[i].Args), impl.Ref{Pos: -9})
	}
	c.Attrs, c.Eqs = c.Attrs[:len(ag.Attrs)], c.Eqs[:len(ag.Eqs)]
	for i := range c.Eqs {
		c.Eqs[i].Args = c.Eqs[i].Args[:len(ag.Eqs[i].Args)]
	}
	return c
}

func sameAg(a impl.Ag, b impl.Ag) bool {
	return slices.Equal(a.Attrs, b.Attrs) && slices.EqualFunc(a.Eqs, b.Eqs, func(x, y impl.Eq) bool {
		return x.Prod == y.Prod && x.Pos == y.Pos && x.Attr == y.Attr && x.Op == y.Op && slices.Equal(x.Args, y.Args)
	})
}

// unfolded shows the spare room, too.
func unfolded(ag impl.Ag) impl.Ag {
	c := impl.Ag{Attrs: slices.Clone(ag.Attrs[:len(ag.Attrs)+1]), Eqs: slices.Clone(ag.Eqs[:len(ag.Eqs)+1])}
	for i, e := range ag.Eqs {
		c.Eqs[i].Args = slices.Clone(e.Args[:len(e.Args)+1])
	}
	return c
}

func TestAttributesKeepAndShareNothing(t *testing.T) {
	b, ag := twoWays()
	given, rules := roomyAg(ag), copyBnf(b)
	before := unfolded(given)
	d, vals := []int{0, 1, 3, 2, 4, -7}, []int{2, 5, 6, -7}
	first, code := impl.AgEval(rules, given, d[:5], vals[:3])
	want := slices.Clone(first)
	if code != impl.OK || len(want) != 9 {
		t.Fatal(first, code)
	}
	first = first[:cap(first)]
	for i := range first {
		first[i] = 77
	}
	wantValues(t, rules, given, d[:5], vals[:3], want, impl.OK)
	wantNeeds(t, rules, given, d[:5])
	wantStrong(t, rules, given, true)
	if !impl.AgOK(rules, given) || !sameAg(unfolded(given), before) || !sameBnf(rules, b) {
		t.Error("the rules or the attributes were written to")
	}
	if !slices.Equal(d, []int{0, 1, 3, 2, 4, -7}) || !slices.Equal(vals, []int{2, 5, 6, -7}) {
		t.Error("the derivation or the values were written to")
	}
}
