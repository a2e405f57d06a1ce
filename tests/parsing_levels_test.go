package tests

import (
	"math/rand"
	"slices"
	"strconv"
	"strings"
	"testing"

	"loop.example/g00037/impl"
)

// operators is a language of two-sided operators with Levels alone: each Level has some of them, and all have one side.
func operators(r *rand.Rand) string {
	text := "language ops;"
	signs := strings.Split("+-*/^<", "")
	var alts []string
	for len(signs) > 0 && len(alts) < 4 {
		text += levelWord[1+r.Intn(3)]
		for n := 1 + r.Intn(min(2, len(signs))); n > 0; n-- {
			text += " '" + signs[0] + "'"
			alts = append(alts, "E '"+signs[0]+"' E")
			signs = signs[1:]
		}
		text += ";"
		if r.Intn(3) == 0 {
			break
		}
	}
	for _, atom := range []string{"'1'", "'2'"}[:1+r.Intn(2)] {
		alts = append(alts, atom)
	}
	r.Shuffle(len(alts), func(i, k int) { alts[i], alts[k] = alts[k], alts[i] })
	return text + "E=" + strings.Join(alts, "|") + ";"
}

// sum is n operators between atoms.
func sum(r *rand.Rand, b impl.Bnf, n int) []int {
	var atoms, signs []int
	for term := range b.Terms {
		if b.Terms[term].Level > 0 {
			signs = append(signs, term)
		} else {
			atoms = append(atoms, term)
		}
	}
	word := []int{oneOf(r, atoms...)}
	for range n {
		word = append(word, oneOf(r, signs...), oneOf(r, atoms...))
	}
	return word
}

// Promise 10: what the table parses is the one Good derivation; where there is none, it parses nothing.
func TestWhatIsParsedByLevelsIsTheOneGoodDerivation(t *testing.T) {
	r := rand.New(rand.NewSource(10))
	parsed, refused := 0, 0
	for range 250 {
		text := operators(r)
		b := mustLower(t, mustRead(t, text))
		for n := range 6 {
			word := sum(r, b, n)
			if n > 2 && r.Intn(4) == 0 {
				word = slices.Delete(word, n, n+1)
			}
			good := goodOnes(t, b, word)
			if len(good) > 1 {
				t.Fatalf("%s: %v has Good derivations %v", text, word, good)
			}
			for _, kind := range allKinds {
				table, _ := mustTable(t, b, kind)
				list, code, _ := impl.Parse(b, table, word)
				if (code == impl.OK) != (len(good) == 1) || code == impl.OK && !slices.Equal(list, good[0]) {
					t.Fatalf("%s: Parse of %v by kind %d: %v, %d, and Good are %v", text, word, kind, list, code, good)
				}
			}
			parsed, refused = parsed+len(good), refused+oneFor(len(good) == 0)
		}
	}
	if parsed < 500 || refused < 100 {
		t.Error(parsed, refused)
	}
}

func goodOnes(t *testing.T, b impl.Bnf, word []int) [][]int {
	t.Helper()
	all, code := impl.Count(b, 0, word)
	if code != impl.OK {
		t.Fatal(code)
	}
	var good [][]int
	for k := range all {
		list := mustPick(t, b, word, k)
		isGood, code := impl.Good(b, 0, list)
		if code != impl.OK {
			t.Fatal(code)
		}
		if isGood {
			good = append(good, list)
		}
	}
	return good
}

// keepsToLevels goes by the document's sentence.
func keepsToLevels(b impl.Bnf, g *growth) bool {
	if g.prod < 0 {
		return true
	}
	p := b.Prods[g.prod]
	for i, kid := range g.kids {
		if !keepsToLevels(b, kid) {
			return false
		}
		if p.Level == 0 || p.Right[i] != p.Left {
			continue
		}
		its := b.Prods[kid.prod].Level
		lower := its > 0 && its < p.Level
		if i == 0 && (lower || its == p.Level && p.Assoc != impl.AsLeft) {
			return false
		}
		if i == len(p.Right)-1 && len(p.Right) >= 2 && (lower || its == p.Level && p.Assoc != impl.AsRight) {
			return false
		}
	}
	return true
}

func TestGoodOfManyRules(t *testing.T) {
	r := rand.New(rand.NewSource(63))
	good, not := 0, 0
	for i, b := range manyRules(4000) {
		b = leveled(r, b)
		if isCyclic(b) {
			continue
		}
		for symbol, some := range growths(b, 2+i%3, 1000) {
			for _, all := range some {
				for _, one := range all {
					if one.prod < 0 {
						continue
					}
					want := keepsToLevels(b, one)
					wantGood(t, b, symbol-len(b.Terms), one.numbers(), want, impl.OK)
					good, not = good+oneFor(want), not+oneFor(!want)
				}
			}
		}
		if t.Failed() {
			t.FailNow()
		}
	}
	if good < 5000 || not < 1000 {
		t.Error(good, not)
	}
}

// withLevels gives each Prod its Level and Assoc, written as 1l, 2r, 3n, or - for none.
func withLevels(b impl.Bnf, levels string) impl.Bnf {
	for i, one := range strings.Fields(levels) {
		if one != "-" {
			b.Prods[i].Level, _ = strconv.Atoi(one[:1])
			b.Prods[i].Assoc = 1 + strings.Index("lrn", one[1:])
		}
	}
	return b
}

func TestGoodByHand(t *testing.T) {
	rules := func(levels string) impl.Bnf {
		return withLevels(plain("+*-1", "EA", "E=E+E", "E=E*E", "E=-E", "E=1", "E=AE", "A=1", "E=E"), levels)
	}
	for _, test := range []struct {
		levels string
		list   []int
		good   bool
	}{
		// Two of a Level: by Assoc of the one above.
		{"1l 2l", []int{0, 0, 3, 3, 3}, true},
		{"1l 2l", []int{0, 3, 0, 3, 3}, false},
		{"1r 2l", []int{0, 0, 3, 3, 3}, false},
		{"1r 2l", []int{0, 3, 0, 3, 3}, true},
		{"1n 2l", []int{0, 0, 3, 3, 3}, false},
		{"1n 2l", []int{0, 3, 0, 3, 3}, false},
		{"1l 1r", []int{0, 1, 3, 3, 3}, true},
		{"1l 1r", []int{1, 0, 3, 3, 3}, false},
		{"1l 1r", []int{1, 3, 0, 3, 3}, true},
		{"1l 1r", []int{0, 3, 1, 3, 3}, false},
		// A lower one is good on no side, a higher one on both.
		{"1l 2l", []int{1, 0, 3, 3, 3}, false},
		{"1l 2r", []int{1, 3, 0, 3, 3}, false},
		{"1l 2n", []int{0, 1, 3, 3, 1, 3, 3}, true},
		// One without a Level is good everywhere, and below it each is.
		{"- 2l", []int{1, 0, 3, 3, 3}, true},
		{"- 2l", []int{1, 3, 0, 3, 3}, true},
		{"- 2l", []int{0, 1, 3, 3, 1, 3, 3}, true},
		// It is looked at everywhere in it.
		{"1l 2l", []int{0, 3, 1, 0, 3, 3, 3}, false},
		{"1l 2l", []int{0, 1, 3, 0, 3, 3, 3}, false},
		{"1l 2l - - -", []int{4, 5, 1, 0, 3, 3, 3}, false},
		// One that stands in front: its last symbol is its Left, but the first is not.
		{"1l 2l 3l", []int{2, 0, 3, 3}, false},
		{"1l 2l 3l", []int{0, 2, 3, 2, 3}, true},
		{"1l 2l 1l", []int{2, 0, 3, 3}, false},
		{"1l 2l 1r", []int{2, 0, 3, 3}, true},
		{"3l 2l 1r", []int{0, 2, 3, 3}, false},
		// A first symbol that is another Non does not count.
		{"1l 2l - - 3l 1l", []int{4, 5, 3}, true},
		{"1l 2l - - 3l 1l", []int{4, 5, 0, 3, 3}, false},
		// A symbol alone is the first one, and not the last.
		{"1l 2l - - - - 1l", []int{6, 0, 3, 3}, true},
		{"1l 2l - - - - 1r", []int{6, 0, 3, 3}, false},
		{"1l 2l - - - - 2l", []int{6, 0, 3, 3}, false},
		{"1l 2l - 1l", []int{0, 3, 3}, false},
		{"1l", []int{3}, true},
	} {
		wantGood(t, rules(test.levels), 0, test.list, test.good, impl.OK)
	}
	// What stands in the middle does not count.
	b := withLevels(plain("+?1", "E", "E=E?E?E", "E=E+E", "E=1"), "2l 1l")
	wantGood(t, b, 0, []int{0, 2, 1, 2, 2, 2}, true, impl.OK)
	wantGood(t, b, 0, []int{0, 1, 2, 2, 2, 2}, false, impl.OK)
	wantGood(t, b, 0, []int{0, 2, 2, 1, 2, 2}, false, impl.OK)
	// By another Non than the start.
	b = withLevels(plain("+1", "SE", "S=E", "E=E+E", "E=1"), "- 1l")
	wantGood(t, b, 1, []int{1, 2, 1, 2, 2}, false, impl.OK)
	wantGood(t, b, 0, []int{0, 1, 1, 2, 2, 2}, true, impl.OK)
	wantGood(t, b, 1, []int{0, 2}, false, impl.ErrText)
}
