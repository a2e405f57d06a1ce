package tests

import (
	"math"
	"math/rand"
	"slices"
	"testing"

	"loop.example/g00037/impl"
)

func TestOrdersByHand(t *testing.T) {
	// A Prod with no Non in its Right, with one and with several.
	b := plain("ab", "SA", "S=aSbA", "S=", "A=ab", "A=AAA", "S=A")
	wantBoth(t, b, 0, []int{1}, []int{1})
	wantBoth(t, b, 1, []int{2}, []int{2})
	wantBoth(t, b, 0, []int{4, 2}, []int{2, 4})
	wantBoth(t, b, 0, []int{0, 1, 2}, []int{1, 2, 0})
	wantBoth(t, b, 1, []int{3, 2, 2, 2}, []int{2, 2, 2, 3})
	wantBoth(t, b, 1, []int{3, 2, 3, 2, 2, 2, 2}, []int{2, 2, 2, 2, 3, 2, 3})
	wantBoth(t, b, 0, []int{0, 0, 4, 2, 3, 2, 2, 2, 2}, []int{2, 4, 2, 2, 2, 3, 0, 2, 0})
	wantBoth(t, b, 0, []int{0, 4, 3, 2, 2, 2, 2}, []int{2, 2, 2, 3, 4, 2, 0})
	// Nons side by side, each with its own: the order is that of the Right.
	b = plain("", "SAB", "S=AB", "A=", "B=", "A=B", "B=A")
	wantBoth(t, b, 0, []int{0, 1, 2}, []int{1, 2, 0})
	wantBoth(t, b, 0, []int{0, 3, 2, 4, 1}, []int{2, 3, 1, 4, 0})
	wantBoth(t, b, 2, []int{4, 3, 2}, []int{2, 3, 4})
}

func TestListsInNoOrder(t *testing.T) {
	b := plain("a", "SA", "S=SS", "S=a", "A=S", "A=")
	for _, list := range [][]int{nil, {}, {0}, {2}, {3}, {1, 1}, {0, 0}, {4}, {-1}, {math.MaxInt}, {math.MinInt}, {0, 1, 4}, {0, 1, -1}, {-1, 1, 0}, {4, 1, 0}} {
		noOrder(t, b, 0, list, impl.ErrText)
	}
	// Too short, too long, and with a Prod of another Non.
	for _, d := range [][]int{{0, 1}, {0, 0, 1, 1}, {0, 1, 1, 1}, {0, 1, 1, 0}, {1, 0}, {0, 1, 3}, {0, 3, 1}, {2, 1}, {0, 2, 1, 1}} {
		wantUp(t, b, 0, d, nil, impl.ErrText)
	}
	for _, told := range [][]int{{1, 0}, {1, 1, 0, 0}, {1, 1, 1, 0}, {1, 1, 1}, {0, 1, 1}, {1, 0, 1}, {1, 1, 0, 1}, {3, 1, 0}, {1, 3, 0}, {1, 2}, {1, 2, 1, 0}, {1, 1, 2, 0}} {
		wantDown(t, b, 0, told, nil, impl.ErrText)
	}
	// One order is not the other.
	wantUp(t, b, 0, []int{0, 1, 1}, []int{1, 1, 0}, impl.OK)
	wantDown(t, b, 0, []int{0, 1, 1}, nil, impl.ErrText)
	wantUp(t, b, 0, []int{1, 1, 0}, nil, impl.ErrText)
	wantDown(t, b, 0, []int{1, 1, 0}, []int{0, 1, 1}, impl.OK)
	// By the other Non it is one, or none.
	wantBoth(t, b, 1, []int{2, 0, 1, 1}, []int{1, 1, 0, 2})
	noOrder(t, b, 1, []int{1}, impl.ErrText)
	wantBoth(t, b, 1, []int{3}, []int{3})
}

func TestWhichFaultOfOrdersIsFirst(t *testing.T) {
	b := plain("a", "SA", "S=S", "S=a")
	long := make([]int, impl.MaxDeriv+1)
	for _, non := range []int{-1, 2, 3, math.MinInt, math.MaxInt} {
		noOrder(t, b, non, []int{1}, impl.ErrPlace)
		noOrder(t, b, non, []int{7}, impl.ErrPlace)
		noOrder(t, b, non, nil, impl.ErrPlace)
		noOrder(t, b, non, long[1:], impl.ErrPlace)
		noOrder(t, b, non, long, impl.ErrBad)
		noOrder(t, impl.Bnf{}, non, []int{1}, impl.ErrBad)
	}
	noOrder(t, b, 1, []int{1}, impl.ErrText)
	noOrder(t, b, 0, long[1:], impl.ErrText)
	noOrder(t, b, 0, long, impl.ErrBad)
	for _, spoil := range []func(b *impl.Bnf){
		func(b *impl.Bnf) { *b = impl.Bnf{} },
		func(b *impl.Bnf) { b.Own = 0 },
		func(b *impl.Bnf) { b.Nons[1] = b.Nons[0] },
		func(b *impl.Bnf) { b.Prods[0].Left = 0 },
		func(b *impl.Bnf) { b.Prods[0].Right = []int{3} },
		func(b *impl.Bnf) { b.Prods[0].Right = []int{-1} },
		func(b *impl.Bnf) { b.Prods[0].Right = make([]int, impl.MaxRight+1) },
		func(b *impl.Bnf) { b.Prods = make([]impl.Prod, impl.MaxProds+1) },
	} {
		wrong := copyRules(b)
		spoil(&wrong)
		noOrder(t, wrong, 0, []int{1}, impl.ErrBad)
		noOrder(t, wrong, 5, []int{1}, impl.ErrBad)
	}
}

func TestLongestOrders(t *testing.T) {
	// Far down.
	b := plain("a", "S", "S=S", "S=a")
	down := make([]int, impl.MaxDeriv+1)
	down[impl.MaxDeriv] = 1
	up := slices.Clone(down)
	slices.Reverse(up)
	wantBoth(t, b, 0, down[1:], up[:impl.MaxDeriv])
	wantUp(t, b, 0, down, nil, impl.ErrBad)
	wantDown(t, b, 0, up, nil, impl.ErrBad)
	// To the left, and far to the right; its word is longer than Yield allows, which does not matter here.
	for _, prod := range []string{"S=Sa", "S=aS"} {
		b = plain("a", "S", prod, "S=")
		wantYield(t, b, 0, down[1:], nil, impl.ErrFull)
		wantBoth(t, b, 0, down[1:], up[:impl.MaxDeriv])
	}
	// Wide: as many Nons as a Right may have.
	b = plain("", "SA", "S=AAAAAAAAAAAA", "A=")
	wantBoth(t, b, 0, append([]int{0}, slices.Repeat([]int{1}, 12)...), append(slices.Repeat([]int{1}, 12), 0))
}

func TestOrdersOfAllShortLists(t *testing.T) {
	right := 0
	for _, b := range []impl.Bnf{plain("a", "S", "S=SS", "S=a", "S="), plain("a", "SA", "S=AaS", "A=", "S=A"), plain("", "SAB", "S=AB", "A=B", "B=")} {
		for _, list := range allWords(len(b.Prods)+1, 6) {
			// There is no Prod with the last number: it stands for others that are none.
			for non := range b.Nons {
				numbers := termList(list)
				up, rest, found := upBy(b, len(b.Terms)+non, numbers)
				if found && len(rest) == 0 {
					wantBoth(t, b, non, numbers, up)
					right++
				} else {
					wantUp(t, b, non, numbers, nil, impl.ErrText)
				}
				if down, found := downBy(b, non, numbers); found {
					wantBoth(t, b, non, down, numbers)
				} else {
					wantDown(t, b, non, numbers, nil, impl.ErrText)
				}
			}
		}
	}
	if right < 20 {
		t.Error(right)
	}
}

func TestOrdersOfManyDerivations(t *testing.T) {
	r := rand.New(rand.NewSource(172))
	done, spoilt := 0, 0
	for _, b := range manyRules(3000) {
		d, _, found := someDerivation(r, b, 2+r.Intn(6), 60)
		if !found {
			continue
		}
		done++
		up, _, _ := upBy(b, len(b.Terms), d)
		wantBoth(t, b, 0, d, up)
		r.Shuffle(len(up), func(i int, j int) { up[i], up[j] = up[j], up[i] })
		if down, found := downBy(b, 0, up); found {
			wantBoth(t, b, 0, down, up)
		} else {
			spoilt++
			wantDown(t, b, 0, up, nil, impl.ErrText)
		}
		if t.Failed() {
			t.FailNow()
		}
	}
	if done < 1000 || spoilt < 100 {
		t.Error(done, spoilt)
	}
}

func TestOrdersKeepAndShareNothing(t *testing.T) {
	r := rand.New(rand.NewSource(173))
	for _, small := range manyRules(600) {
		b := roomyRules(small)
		d, _, found := someDerivation(r, b, 2+r.Intn(6), 60)
		if !found {
			continue
		}
		list := append(make([]int, 0, 2*len(d)), d...)
		kept, was := copyRules(b), slices.Clone(list[:cap(list)])
		up, _ := impl.Upwards(b, 0, list)
		told := append(make([]int, 0, 2*len(d)), up...)
		spoilLists(up)
		wantBoth(t, b, 0, list, told)
		wasTold := slices.Clone(told[:cap(told)])
		down, _ := impl.Downwards(b, 0, told)
		spoilLists(down)
		wantBoth(t, b, 0, list, told)
		if !sameBnf(copyRules(b), kept) || !slices.Equal(list[:cap(list)], was) || !slices.Equal(told[:cap(told)], wasTold) {
			t.Fatalf("%s: written into", shownRules(b))
		}
	}
}
