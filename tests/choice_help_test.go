package tests

import (
	"math/rand"
	"slices"
	"testing"

	"loop.example/g00037/impl"
)

// pass is what a try gives; nil is nothing.
type pass struct {
	end  int
	list []int
}

// attempt is a Non that is being tried, and was not done yet.
type attempt struct {
	symbol int
	place  int
	seed   *pass
	asked  bool
}

// choosing goes by the document's sentences, with nothing but what is being tried. What is met is counted.
type choosing struct {
	impl.Bnf
	word []int
	open []*attempt
	left int
	// Only for what is counted: whether the seed was asked for when a Non was tried last.
	asked map[[2]int]bool
	met   map[string]int
}

// tooLong is the panic of a choice that takes more tries than it may.
type tooLong struct{}

func (c *choosing) try(symbol int, place int) *pass {
	if symbol < len(c.Terms) {
		if place == len(c.word) || c.word[place] != symbol {
			return nil
		}
		return &pass{end: place + 1}
	}
	if c.left--; c.left < 0 {
		panic(tooLong{})
	}
	for _, one := range c.open {
		if one.symbol == symbol && one.place == place {
			one.asked = true
			return one.seed
		}
	}
	one := &attempt{symbol: symbol, place: place}
	c.open = append(c.open, one)
	got := c.rounds(one)
	c.open = c.open[:len(c.open)-1]
	return got
}

func (c *choosing) rounds(one *attempt) *pass {
	for round := 1; ; round++ {
		one.asked = false
		got := c.first(one.symbol, one.place)
		at := [2]int{one.symbol, one.place}
		if c.asked[at] && !one.asked {
			c.met["asked for, and then not"]++
		}
		c.asked[at] = one.asked
		if !one.asked {
			return got
		}
		if got == nil || one.seed != nil && got.end <= one.seed.end {
			c.met["grown "+[]string{"never", "once", "twice", "more"}[min(round-1, 3)]]++
			return one.seed
		}
		one.seed = got
	}
}

func (c *choosing) first(symbol int, place int) *pass {
	for prod, p := range c.Prods {
		if p.Left != symbol {
			continue
		}
		got := &pass{end: place, list: []int{prod}}
		for _, symbol := range p.Right {
			part := c.try(symbol, got.end)
			if part == nil {
				got = nil
				break
			}
			got.end = part.end
			got.list = append(got.list, part.list...)
		}
		if got != nil {
			return got
		}
	}
	return nil
}

// chooseBy tells what Choose is to, and whether that did not take too long.
func chooseBy(b impl.Bnf, non int, word []int, met map[string]int) (list []int, end int, code int, done bool) {
	if isTwinedTooMuch(b) {
		return nil, 0, impl.ErrLoop, true
	}
	defer func() {
		if caught := recover(); caught != nil {
			_ = caught.(tooLong)
		}
	}()
	c := choosing{Bnf: b, word: word, left: 20000, asked: map[[2]int]bool{}, met: met}
	got := c.try(len(b.Terms)+non, 0)
	if got == nil {
		return nil, 0, impl.ErrNone, true
	}
	return got.list, got.end, impl.OK, true
}

func isTwinedTooMuch(b impl.Bnf) bool {
	length := shortestLengths(b)
	steps := stepsOf(b, func(ahead, behind []int) bool { return empties(length, ahead) })
	for one := len(b.Terms); one < len(length); one++ {
		twined := 0
		for other := len(b.Terms); other < len(length); other++ {
			if goesTo(steps, one, other) && goesTo(steps, other, one) {
				twined++
			}
		}
		if twined > impl.MaxTwined {
			return true
		}
	}
	return false
}

func wantChoice(t *testing.T, b impl.Bnf, non int, word []int, want []int, wantEnd int, wantCode int) {
	t.Helper()
	list, end, code := impl.Choose(b, non, word)
	if !slices.Equal(list, want) || end != wantEnd || code != wantCode {
		t.Errorf("%s: Choose by %d of %v: %v up to %d, code %d, and should be %v up to %d, code %d", shownRules(b), non, word, list, end, code, want, wantEnd, wantCode)
	}
	if non == 0 {
		wantAll, allCode := wantCode == impl.OK && wantEnd == len(word), wantCode
		if wantCode == impl.ErrNone {
			allCode = impl.OK
		}
		wantChosen(t, b, word, wantAll, allCode)
	}
}

func wantChosen(t *testing.T, b impl.Bnf, word []int, want bool, wantCode int) {
	t.Helper()
	if all, code := impl.Chosen(b, word); all != want || code != wantCode {
		t.Errorf("%s: Chosen of %v: %v, code %d, and should be %v, code %d", shownRules(b), word, all, code, want, wantCode)
	}
}

// chosenBy is by hand: the word's terminals are letters, and so are the start's numbers.
func chosenBy(t *testing.T, b impl.Bnf, word string, wantEnd int, want ...int) {
	t.Helper()
	wantChoice(t, b, 0, lettersOf(word), want, wantEnd, impl.OK)
}

func lettersOf(word string) []int {
	list := []int{}
	for _, letter := range []byte(word) {
		list = append(list, int(letter-'a'))
	}
	return list
}

// twiningRules mostly begin their Rights with Nons, so that many are tried at their own place again.
func twiningRules(r *rand.Rand) impl.Bnf {
	b := plain("ab", "SABCD"[:1+r.Intn(5)])
	for non := range b.Nons {
		for n := 1 + r.Intn(4); n > 0; n-- {
			p := impl.Prod{Left: 2 + non}
			for k := r.Intn(4); k > 0; k-- {
				symbol := r.Intn(2)
				if r.Intn(5) < 2 || len(p.Right) == 0 && r.Intn(3) > 0 {
					symbol = 2 + r.Intn(len(b.Nons))
				}
				p.Right = append(p.Right, symbol)
			}
			b.Prods = append(b.Prods, p)
		}
	}
	return b
}
