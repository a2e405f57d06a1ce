package tests

import (
	"math"
	"math/rand"
	"slices"
	"testing"

	"loop.example/g00037/impl"
)

func TestARowIsStrong(t *testing.T) {
	b, ag := rowRules()
	wantStrong(t, b, ag, true)
	both, bothAg := twoWays()
	wantStrong(t, both, bothAg, true)
	wantStrong(t, b, impl.Ag{}, true)
	none := plain("x", "SA")
	wantStrong(t, none, agOf(none, "S.a S.b! A.a A.c!"), true)
	// What one step leads to is not what leads there.
	wantStrong(t, b, agOf(b, "L.u L.d!", "0: 0.u = add 0.d 0.d", "0: 2.d = max 0.d 0.d", "1: 0.u = mul 0.d 0.d"), true)
}

// In one Prod, and by what Prods below lead to: directly, at a Non of its own Left, and over several places.
func TestRingsOfSteps(t *testing.T) {
	b := plain("xy", "SAB", "S=AB", "A=xA", "A=y", "B=AB", "B=")
	for _, x := range []struct {
		why    string
		strong bool
		eqs    []string
	}{
		{"nothing is related", true, []string{"0: 1.d = copy 1.u", "1: 2.d = copy 2.u", "3: 1.d = copy 1.u", "1: 0.u = copy #0", "2: 0.u = copy #0"}},
		{"related by one Prod", false, []string{"0: 1.d = copy 1.u", "1: 2.d = copy #0", "3: 1.d = copy #0", "1: 0.u = copy #0", "2: 0.u = copy 0.d"}},
		{"the other Prod", false, []string{"0: 1.d = copy 1.u", "1: 2.d = copy #0", "3: 1.d = copy #0", "1: 0.u = copy 0.d", "2: 0.u = copy #0"}},
		{"related through the one below", false, []string{"0: 1.d = copy 1.u", "1: 2.d = copy 0.d", "3: 1.d = copy #0", "1: 0.u = copy 2.u", "2: 0.u = copy 0.d"}},
		{"through the one below, which has nothing", true, []string{"0: 1.d = copy 1.u", "1: 2.d = copy 0.d", "3: 1.d = copy #0", "1: 0.u = copy 2.u", "2: 0.u = copy #3"}},
		{"in a Prod of its own", false, []string{"0: 1.d = copy #0", "1: 2.d = copy 2.u", "3: 1.d = copy #0", "1: 0.u = copy #0", "2: 0.u = copy 0.d"}},
		{"in a Prod of another Non", false, []string{"0: 1.d = copy #0", "1: 2.d = copy #0", "3: 1.d = copy 1.u", "1: 0.u = copy #0", "2: 0.u = copy 0.d"}},
		{"only what goes up and stops there", true, []string{"0: 1.d = copy #0", "1: 2.d = copy 0.d", "3: 1.d = copy #0", "1: 0.u = copy 2.u", "2: 0.u = copy 0.d"}},
		{"the second Arg", false, []string{"0: 1.d = add #0 1.u", "1: 2.d = copy #0", "3: 1.d = copy #0", "1: 0.u = copy #0", "2: 0.u = max 1 0.d"}},
		{"the third Arg", false, []string{"0: 1.d = if #1 #1 1.u", "1: 2.d = copy #0", "3: 1.d = copy #0", "1: 0.u = copy #0", "2: 0.u = if #0 0.d #1"}},
		{"times 0", false, []string{"0: 1.d = mul #0 1.u", "1: 2.d = copy #0", "3: 1.d = copy #0", "1: 0.u = copy #0", "2: 0.u = mul #0 0.d"}},
	} {
		ag := agOf(b, "A.u A.d!", x.eqs...)
		wantRight(t, x.why, b, ag)
		wantStrong(t, b, ag, x.strong)
	}
	// A ring over two places of a Right.
	over := agOf(b, "A.u A.d! B.u B.d!",
		"0: 1.d = copy 2.u", "0: 2.d = copy 1.u",
		"1: 0.u = copy 0.d", "1: 2.d = copy #0", "2: 0.u = copy #1",
		"3: 1.d = copy #0", "3: 2.d = copy #0", "3: 0.u = copy #0", "4: 0.u = copy 0.d",
	)
	wantRight(t, "a ring", b, over)
	wantStrong(t, b, over, false)
	wantValues(t, b, over, []int{0, 1, 2, 4}, []int{0, 0}, nil, impl.ErrLoop)
	wantValues(t, b, over, []int{0, 2, 4}, []int{0}, []int{1, 1, 1, 1}, impl.OK)
	wantNeeds(t, b, over, []int{0, 1, 2, 4})
	over.Eqs[8].Args[0] = impl.Ref{Pos: -1, N: 5}
	wantStrong(t, b, over, true)
	wantValues(t, b, over, []int{0, 1, 2, 4}, []int{0, 0}, []int{5, 5, 1, 0, 5, 5}, impl.OK)
}

// What is related is found round after round, each by the one ahead: with five that go down and four that go up there are twenty of them, one behind the other.
func TestWhatIsRelatedRoundAfterRound(t *testing.T) {
	b := plain("xy", "SN", "S=N", "N=xN", "N=y")
	attrs := "N.d0! N.d1! N.d2! N.d3! N.d4! N.u0 N.u1 N.u2 N.u3"
	eqs := []string{
		"1: 2.d0 = copy 0.d4", "1: 2.d1 = copy 0.d0", "1: 2.d2 = copy 0.d1", "1: 2.d3 = copy 0.d2", "1: 2.d4 = copy 0.d3",
		"1: 0.u0 = copy 2.u3", "1: 0.u1 = copy 2.u0", "1: 0.u2 = copy 2.u1", "1: 0.u3 = copy 2.u2",
		"2: 0.u0 = copy 0.d0", "2: 0.u1 = copy #1", "2: 0.u2 = copy #2", "2: 0.u3 = copy #3",
	}
	for down, name := range []string{"d0", "d1", "d2", "d3", "d4"} {
		for up, from := range []string{"u0", "u1", "u2", "u3"} {
			var tops []string
			for _, other := range []string{"d0", "d1", "d2", "d3", "d4"} {
				arg := "#1"
				if other == name {
					arg = "1." + from
				}
				tops = append(tops, "0: 1."+other+" = copy "+arg)
			}
			ag := agOf(b, attrs, append(tops, eqs...)...)
			wantStrong(t, b, ag, false)
			// The one below the start hangs on itself when so many x stand ahead of the y that this one is the first that goes down, and this one the first that comes up.
			for x := range 25 {
				d := append(append([]int{0}, slices.Repeat([]int{1}, x)...), 2)
				code := impl.OK
				if (down+x)%5 == 0 && x%4 == up {
					code = impl.ErrLoop
				}
				if _, got := impl.AgEval(b, ag, d, make([]int, x+1)); got != code {
					t.Errorf("%s by %s, %d x: code %d, and should be %d", name, from, x, got, code)
				}
			}
		}
	}
	ag := agOf(b, attrs, append([]string{"0: 1.d0 = copy #0", "0: 1.d1 = copy #0", "0: 1.d2 = copy #0", "0: 1.d3 = copy #0", "0: 1.d4 = copy #0"}, eqs...)...)
	wantStrong(t, b, ag, true)
}

// All Prods count, also where no derivation leads.
func TestRingsWhereNoDerivationLeads(t *testing.T) {
	// Q is not reached.
	b := plain("x", "SQ", "S=x", "Q=S", "Q=QQ")
	ag := agOf(b, "S.u S.d!", "0: 0.u = copy 0.d", "1: 1.d = copy 1.u")
	wantStrong(t, b, ag, false)
	wantValues(t, b, ag, []int{0}, []int{3}, []int{0, 0}, impl.OK)
	wantNeeds(t, b, ag, []int{0})
	// Q makes nothing, and yet what goes down into it comes up.
	b = plain("x", "SQ", "S=x", "S=Q", "Q=xQ", "Q=SQ")
	ag = agOf(b, "Q.u Q.d!", "1: 1.d = copy 1.u", "2: 0.u = copy 0.d", "2: 2.d = copy #0", "3: 0.u = copy #0", "3: 2.d = copy #0")
	wantStrong(t, b, ag, false)
	wantValues(t, b, ag, []int{0}, []int{3}, nil, impl.OK)
	// Of a Non without any Prod nothing comes up by what goes down.
	b = plain("x", "SQ", "S=x", "S=Q")
	wantStrong(t, b, agOf(b, "Q.u Q.d!", "1: 1.d = copy 1.u"), true)
	b = plain("x", "SQ", "S=x", "S=Q", "Q=Q")
	wantStrong(t, b, agOf(b, "Q.u Q.d!", "1: 1.d = copy 1.u", "2: 0.u = copy 1.u", "2: 1.d = copy 0.d"), true)
}

// Not strong, and yet no derivation has one that hangs on itself: what two Prods relate never stands together.
func TestNotStrongAndYetNothingHangsOnItself(t *testing.T) {
	b := plain("xy", "SA", "S=A", "A=x", "A=y")
	ag := agOf(b, "A.u A.v A.d! A.e!",
		"0: 1.d = copy 1.v", "0: 1.e = copy 1.u",
		"1: 0.u = copy 0.d", "1: 0.v = copy #4",
		"2: 0.u = copy #5", "2: 0.v = copy 0.e",
	)
	wantStrong(t, b, ag, false)
	wantValues(t, b, ag, []int{0, 1}, []int{9}, []int{4, 4, 4, 4}, impl.OK)
	wantValues(t, b, ag, []int{0, 2}, []int{9}, []int{5, 5, 5, 5}, impl.OK)
	wantNeeds(t, b, ag, []int{0, 1})
	wantNeeds(t, b, ag, []int{0, 2})
	// Without one of the Prods it is strong.
	less := plain("xy", "SA", "S=A", "A=x")
	ag.Eqs = ag.Eqs[:4]
	wantStrong(t, less, ag, true)
}

// Strong or not is asked of single Prods; of several places it is the derivation that tells.
func TestInSomeDerivationsAndNotInOthers(t *testing.T) {
	b := plain("xyz", "L", "L=xL", "L=y", "L=z")
	ag := agOf(b, "L.u L.d!", "0: 2.d = copy 2.u", "0: 0.u = add 2.u 1", "1: 0.u = copy 1", "2: 0.u = copy 0.d")
	wantStrong(t, b, ag, false)
	wantValues(t, b, ag, []int{1}, []int{7}, []int{7, 0}, impl.OK)
	wantValues(t, b, ag, []int{2}, []int{7}, []int{0, 0}, impl.OK)
	wantValues(t, b, ag, []int{0, 1}, []int{3, 7}, []int{10, 0, 7, 7}, impl.OK)
	wantValues(t, b, ag, []int{0, 0, 1}, []int{3, 4, 7}, []int{14, 0, 11, 11, 7, 7}, impl.OK)
	wantValues(t, b, ag, []int{0, 2}, []int{3, 7}, nil, impl.ErrLoop)
	wantValues(t, b, ag, []int{0, 0, 2}, []int{3, 4, 7}, nil, impl.ErrLoop)
	for _, d := range [][]int{{1}, {2}, {0, 1}, {0, 0, 1}, {0, 2}, {0, 0, 2}} {
		wantNeeds(t, b, ag, d)
	}
}

func TestAllThreeArgsOfIfCount(t *testing.T) {
	b := plain("xy", "SL", "S=L", "L=x", "L=y")
	for _, args := range []string{"1.u #1 #1", "#0 1.u #1", "#1 1.u #1", "#0 #1 1.u", "#1 #1 1.u", "1.u 1.u 1.u"} {
		ag := agOf(b, "L.u L.d! S.n", "0: 1.d = if "+args, "0: 0.n = copy #1", "1: 0.u = copy 0.d", "2: 0.u = copy 1")
		wantStrong(t, b, ag, false)
		wantValues(t, b, ag, []int{0, 1}, []int{2}, nil, impl.ErrLoop)
		if code := wantModel(t, b, ag, []int{0, 2}, []int{2}); code != impl.OK {
			t.Error(args, code)
		}
		wantNeed(t, b, ag, []int{0, 1}, 1, 0, 0, impl.ErrLoop)
		wantNeed(t, b, ag, []int{0, 1}, 1, 1, 0, impl.ErrLoop)
		wantNeed(t, b, ag, []int{0, 1}, 0, 2, 1, impl.OK)
		wantNeeds(t, b, ag, []int{0, 2})
	}
	// Above, too: what goes up through the one that is left aside.
	ag := agOf(b, "L.u L.d!", "0: 1.d = copy 1.u", "1: 0.u = if #1 #5 0.d", "2: 0.u = if #0 #5 1")
	wantStrong(t, b, ag, false)
	wantValues(t, b, ag, []int{0, 1}, []int{2}, nil, impl.ErrLoop)
	wantValues(t, b, ag, []int{0, 2}, []int{2}, []int{2, 2}, impl.OK)
}

// What does not change the value counts as well: times 0, the lesser one, what is taken away again.
func TestArgsThatMakeNoDifferenceCount(t *testing.T) {
	b := plain("x", "SL", "S=L", "L=x")
	for _, op := range []string{"mul #0 1.u", "mul 1.u #0", "max 1.u #1000000000", "max #1000000000 1.u", "sub 1.u 1.u", "add 1.u 1.u", "copy 1.u"} {
		ag := agOf(b, "L.u L.d!", "0: 1.d = "+op, "1: 0.u = copy 0.d")
		wantStrong(t, b, ag, false)
		wantValues(t, b, ag, []int{0, 1}, []int{2}, nil, impl.ErrLoop)
		wantNeeds(t, b, ag, []int{0, 1})
	}
	// The same attribute in several Args is one.
	ag := agOf(b, "L.u L.d! L.v", "0: 1.d = if 1.v 1.v 1.v", "1: 0.u = add 0.d 0.d", "1: 0.v = copy 1")
	wantStrong(t, b, ag, true)
	wantValues(t, b, ag, []int{0, 1}, []int{2}, []int{4, 2, 2}, impl.OK)
	wantNeed(t, b, ag, []int{0, 1}, 1, 0, 3, impl.OK)
}

// One that hangs on one that hangs on itself, and one beside it that does not.
func TestWhatHangsOnOneThatHangsOnItself(t *testing.T) {
	b := plain("xy", "SAB", "S=AB", "A=x", "B=y")
	ag := agOf(b, "S.n S.m S.k! A.u A.d! B.v",
		"0: 0.n = add 1.u 2.v", "0: 0.m = sub 2.v 0.k", "0: 1.d = add 1.u 2.v",
		"1: 0.u = copy 0.d",
		"2: 0.v = copy 1",
	)
	d := []int{0, 1, 2}
	wantStrong(t, b, ag, false)
	wantValues(t, b, ag, d, []int{2, 3}, nil, impl.ErrLoop)
	wantNeed(t, b, ag, d, 0, 0, 0, impl.ErrLoop)
	wantNeed(t, b, ag, d, 1, 3, 0, impl.ErrLoop)
	wantNeed(t, b, ag, d, 1, 4, 0, impl.ErrLoop)
	wantNeed(t, b, ag, d, 0, 1, 3, impl.OK)
	wantNeed(t, b, ag, d, 0, 2, 1, impl.OK)
	wantNeed(t, b, ag, d, 2, 5, 1, impl.OK)
	wantNeeds(t, b, ag, d)
}

func TestNeedOfARow(t *testing.T) {
	b, ag := rowRules()
	d := []int{0, 0, 1}
	for at, want := range []int{6, 5, 4} {
		wantNeed(t, b, ag, d, at, 0, want, impl.OK)
	}
	for at := range d {
		wantNeed(t, b, ag, d, at, 1, at+1, impl.OK)
	}
	for _, at := range []int{-1, 3, 4, math.MinInt, math.MaxInt} {
		wantNeed(t, b, ag, d, at, 0, 0, impl.ErrPlace)
	}
	for _, attr := range []int{-1, 2, 3, math.MinInt, math.MaxInt} {
		wantNeed(t, b, ag, d, 0, attr, 0, impl.ErrPlace)
	}
	// An attribute of another Non, and of one that has none.
	both, bothAg := twoWays()
	d = []int{0, 1, 3, 2, 4}
	for at, attrs := range [][]int{{0}, {1, 2}, {3, 4}, {1, 2}, {3, 4}} {
		for attr := range bothAg.Attrs {
			if _, code := impl.AgNeed(both, bothAg, d, at, attr); code == impl.ErrPlace == slices.Contains(attrs, attr) {
				t.Error(at, attr, code)
			}
		}
	}
	wantNeeds(t, both, bothAg, d)
	bare := plain("x", "SA", "S=A", "A=x")
	wantNeed(t, bare, agOf(bare, "S.n", "0: 0.n = copy #1"), []int{0, 1}, 1, 0, 0, impl.ErrPlace)
}

// Promise 16, its second half: with strong ones nothing hangs on itself, whatever the derivation. And what AgStrong and AgNeed tell is what the document's sentences say.
func TestStrongOnesNeverHangOnThemselves(t *testing.T) {
	r := rand.New(rand.NewSource(103))
	type kind struct {
		strong bool
		code   int
	}
	met := map[kind]int{}
	needs := map[int]int{}
	for _, b := range manyRules(3000) {
		ag, fits := someAg(r, b, 8)
		if !fits {
			continue
		}
		strong := strongBy(b, ag)
		wantStrong(t, b, ag, strong)
		for range 4 {
			d, terms, done := someDerivation(r, b, 2+r.Intn(5), 25)
			if !done || len(ag.Attrs) == 0 {
				continue
			}
			_, code := impl.AgEval(b, ag, d, make([]int, terms))
			if strong && code != impl.OK {
				t.Fatalf("%s is strong, and AgEval of %v is code %d", shownAg(b, ag), d, code)
			}
			met[kind{strong, code}]++
			at, attr := r.Intn(len(d)), r.Intn(len(ag.Attrs))
			need, needCode := impl.AgNeed(b, ag, d, at, attr)
			if strong && needCode == impl.ErrLoop || need > len(d)*len(ag.Attrs) {
				t.Fatalf("%s: AgNeed of %v at %d of %d is %d, code %d", shownAg(b, ag), d, at, attr, need, needCode)
			}
			needs[needCode]++
			if r.Intn(5) == 0 {
				wantNeeds(t, b, ag, d)
			}
		}
	}
	if met[kind{true, impl.OK}] < 500 || met[kind{false, impl.OK}] < 200 || met[kind{false, impl.ErrLoop}] < 200 || needs[impl.OK] < 500 || needs[impl.ErrLoop] < 50 || needs[impl.ErrPlace] < 500 {
		t.Error("too few of a kind:", met, needs)
	}
}

// All Ags of a row with one that goes down, one that goes up, and copies alone, with all short derivations: it is strong just when none of these has one that hangs on itself.
func TestAllSmallAgs(t *testing.T) {
	b := plain("xyz", "SL", "S=L", "L=xL", "L=y", "L=z")
	attrs := "L.u L.d!"
	met := map[bool]int{}
	for _, top := range []string{"#1", "1.u"} {
		for _, down := range []string{"#2", "1", "0.d", "2.u"} {
			for _, up := range []string{"#3", "1", "0.d", "2.u"} {
				for _, y := range []string{"#4", "1", "0.d"} {
					for _, z := range []string{"#5", "1", "0.d"} {
						ag := agOf(b, attrs, "0: 1.d = copy "+top, "1: 2.d = copy "+down, "1: 0.u = copy "+up, "2: 0.u = copy "+y, "3: 0.u = copy "+z)
						loops := false
						for _, end := range []int{2, 3} {
							for x := range 4 {
								d := append(append([]int{0}, slices.Repeat([]int{1}, x)...), end)
								loops = wantModel(t, b, ag, d, []int{10, 20, 30, 40}[:x+1]) == impl.ErrLoop || loops
							}
						}
						wantStrong(t, b, ag, !loops)
						met[loops]++
					}
				}
			}
		}
	}
	if met[true] < 20 || met[false] < 20 {
		t.Error("too few of a kind:", met)
	}
}
