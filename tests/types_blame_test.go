package tests

import (
	"math/rand"
	"slices"
	"strconv"
	"testing"

	"loop.example/g00037/impl"
)

func TestBlame(t *testing.T) {
	for _, x := range []struct {
		why   string
		pairs []impl.Same
		want  []int
	}{
		{"one pair alone", pairs("1 = 2"), []int{0}},
		{"one pair alone, ahead of others", pairs("(F) = (G)", "x = 1", "y = (F x)"), []int{0}},
		{"one pair alone, among others", pairs("x = 1", "(F x 1) = (F y (G))", "y = 1"), []int{1}},
		{"one pair alone, behind others", pairs("x = 1", "y = 1", "(F x x) = (F 1 2)"), []int{2}},
		{"a variable within itself", pairs("x = 1", "z = (F z)", "y = 1"), []int{1}},
		{"two together", pairs("x = 1", "x = 2"), []int{0, 1}},
		{"two together, with others between", pairs("x = 1", "y = 2", "x = 2"), []int{0, 2}},
		{"three together", pairs("x = y", "x = 1", "y = 2"), []int{0, 1, 2}},
		{"many together", pairs("a = b", "b = c", "a = (F)", "q = (F)", "c = (G)"), []int{0, 1, 2, 4}},
		{"a ring of many", pairs("a = (F b)", "q = a", "b = (F c)", "r = b", "c = (F a)"), []int{0, 2, 4}},
		// Each alone can't be: all but the first are left out.
		{"two, each alone", pairs("1 = 2", "2 = 1"), []int{0}},
		{"three, each alone", pairs("(F) = (G)", "1 = 2", "x = (F x)"), []int{0}},
		{"one alone ahead of two together", pairs("1 = 2", "x = 1", "x = 2"), []int{0}},
		// What is left hangs on where it was begun: from the last one on.
		{"two together ahead of one alone", pairs("x = 1", "x = 2", "1 = 2"), []int{0, 1}},
		{"two together around one alone", pairs("x = 1", "1 = 2", "x = 2"), []int{1}},
		{"three of which each two can't be", pairs("x = 1", "x = 2", "x = 3"), []int{0, 1}},
		{"four of which some two can't be", pairs("x = 1", "x = 1", "x = 2", "x = 2"), []int{0, 2}},
		{"the shorter way comes first", pairs("a = 1", "a = 2", "a = b", "b = c", "c = 3"), []int{0, 1}},
		{"the longer way comes first", pairs("a = b", "b = c", "c = 3", "a = 1", "c = 1"), []int{0, 1, 2, 3}},
		{"the longer way comes first, and the shorter behind it", pairs("c = 3", "a = b", "b = c", "a = 1", "c = 1"), []int{0, 1, 2, 3}},
		{"two rings", pairs("x = (F y)", "y = (G x)", "y = (F x)"), []int{0, 1}},
		// The same pair twice.
		{"twice ahead of what it parts with", pairs("x = 1", "x = 1", "x = 2"), []int{0, 2}},
		{"twice around what it parts with", pairs("x = 1", "x = 2", "x = 1"), []int{0, 1}},
		{"twice behind what it parts with", pairs("x = 2", "x = 1", "x = 1"), []int{0, 1}},
		{"twice, turned", pairs("x = 1", "1 = x", "x = 2"), []int{0, 2}},
		{"all of it twice", pairs("x = y", "y = 1", "x = 2", "x = y", "y = 1", "x = 2"), []int{0, 1, 2}},
		{"twice, alone", pairs("1 = 2", "1 = 2"), []int{0}},
		// What says nothing is left out.
		{"a variable with itself", pairs("x = x", "x = 1", "y = y", "x = 2", "(F) = (F)"), []int{1, 3}},
		{"what follows from others", pairs("x = y", "y = z", "x = z", "x = 1", "z = 2"), []int{0, 1, 3, 4}},
		{"what others follow from", pairs("x = z", "y = z", "x = y", "x = 1", "z = 2"), []int{0, 3, 4}},
	} {
		wantParted(t, x.why, x.pairs, x.want...)
		// Each pair turned says the same.
		var turned []impl.Same
		for _, one := range x.pairs {
			turned = append(turned, pair(one.Right, one.Left))
		}
		wantParted(t, x.why+", turned", turned, x.want...)
	}
}

func TestBlameOfWhatCanBe(t *testing.T) {
	for _, list := range [][]impl.Same{nil, pairs(), pairs("x = 1"), pairs("x = x"), pairs("x = y", "y = z", "z = x"), pairs("(F x) = (F 1)", "y = x")} {
		if places, code := impl.Blame(list); len(places) != 0 || code != impl.ErrNone {
			t.Errorf("%s: %v, %d", pairsText(list), places, code)
		}
	}
}

// Many pairs of few variables and leaves: there are often several ways in which they can't be the same.
func TestManyToBlame(t *testing.T) {
	r := rand.New(rand.NewSource(201))
	sides := []impl.Tree{pattern("x"), pattern("y"), pattern("z"), pattern("w"), pattern("1"), pattern("2"), pattern("(F x)"), pattern("(F y)"), pattern("(F z 1)")}
	met := make([]int, 8)
	for range 20000 {
		var list []impl.Same
		for range 1 + r.Intn(8) {
			list = append(list, pair(oneOf(r, sides[:4]...), oneOf(r, sides...)))
		}
		if r.Intn(3) == 0 {
			list = append(list, oneOf(r, list...))
		}
		met[min(len(checkBlame(t, list)), 7)]++
	}
	for _, count := range []int{0, 1, 2, 3, 4} {
		if met[count] < 50 {
			t.Errorf("%d to blame: only %d", count, met[count])
		}
	}
}

// As many pairs as there may be: two ways in which they can't be the same, of which the one that stands ahead is left.
func TestBlameOfAsManyAsThereMayBe(t *testing.T) {
	half := impl.MaxPairs / 2
	way := func(name string) []impl.Same {
		list := []impl.Same{pair(variable(name+"0"), leaf("N", "1"))}
		for i := range half - 2 {
			list = append(list, pair(variable(name+strconv.Itoa(i)), variable(name+strconv.Itoa(i+1))))
		}
		return append(list, pair(variable(name+strconv.Itoa(half-2)), leaf("N", "2")))
	}
	var first []int
	for i := range half {
		first = append(first, i)
	}
	wantParted(t, "two ways, one behind the other", slices.Concat(way("x"), way("y")), first...)
	var mixed []impl.Same
	var even []int
	for i := range half {
		mixed = append(mixed, way("x")[i], way("y")[i])
		even = append(even, 2*i)
	}
	// The last pair of y is the first that is left out: so what is left is x.
	wantParted(t, "two ways, mixed", mixed, even...)
}
