package tests

import (
	"testing"

	"loop.example/g00037/impl"
)

// notTwined are rules by which a word of one a is chosen.
func notTwined(t *testing.T, b impl.Bnf) {
	t.Helper()
	if _, end, code := impl.Choose(b, 0, []int{0}); end != 1 || code != impl.OK {
		t.Errorf("%s: up to %d, code %d", shownRules(b), end, code)
	}
	wantChosen(t, b, []int{0}, true, impl.OK)
}

func tooTwined(t *testing.T, b impl.Bnf) {
	t.Helper()
	for _, word := range [][]int{nil, {0}, {1, 1}} {
		for non := range b.Nons {
			wantChoice(t, b, non, word, nil, 0, impl.ErrLoop)
		}
	}
	// What is wrong otherwise is told first.
	wantChoice(t, b, len(b.Nons), []int{0}, nil, 0, impl.ErrPlace)
	wantChoice(t, b, -1, []int{0}, nil, 0, impl.ErrPlace)
	wantChoice(t, b, 0, []int{len(b.Terms)}, nil, 0, impl.ErrBad)
	wantChoice(t, b, 0, make([]int, impl.MaxWord+1), nil, 0, impl.ErrBad)
	b.Own = 0
	wantChoice(t, b, 0, []int{0}, nil, 0, impl.ErrBad)
}

func TestAsManyTwinedAsThereMayBe(t *testing.T) {
	// Each leads to each straight.
	notTwined(t, plain("ab", "SAB", "S=Sb", "S=Ab", "S=Bb", "S=a", "A=Sb", "A=Ab", "A=Bb", "B=Sb", "B=Ab", "B=Bb"))
	tooTwined(t, plain("ab", "SABC", "S=Ab", "S=Bb", "S=Cb", "S=a", "A=Sb", "A=Bb", "A=Cb", "B=Sb", "B=Ab", "B=Cb", "C=Sb", "C=Ab", "C=Bb"))
	// By way of others: a ring.
	notTwined(t, plain("ab", "SAB", "S=Ab", "S=a", "A=Bb", "B=Sb"))
	tooTwined(t, plain("ab", "SABC", "S=Ab", "S=a", "A=Bb", "B=Cb", "C=Sb"))
	tooTwined(t, plain("ab", "SABCDEFG", "S=Ab", "S=a", "A=Bb", "B=Cb", "C=Db", "D=Eb", "E=Fb", "F=Gb", "G=Sb"))
	// By way of one in the middle: there and back.
	notTwined(t, plain("ab", "SAB", "S=Ab", "S=Bb", "S=a", "A=Sb", "B=Sb"))
	tooTwined(t, plain("ab", "SABC", "S=Ab", "S=Bb", "S=Cb", "S=a", "A=Sb", "B=Sb", "C=Sb"))
	// Behind symbols that make the empty word: one, several, one that makes it by way of another, in a way that is never chosen.
	notTwined(t, plain("ab", "SABE", "S=EAb", "S=a", "A=EEBb", "B=Sb", "E="))
	tooTwined(t, plain("ab", "SABCE", "S=EAb", "S=a", "A=Bb", "B=Cb", "C=Sb", "E="))
	tooTwined(t, plain("ab", "SABCEF", "S=Ab", "S=a", "A=EFEBb", "B=Cb", "C=Sb", "E=FF", "F=b", "F="))
	tooTwined(t, plain("ab", "SABCE", "S=EAEBE", "S=a", "A=ESb", "A=", "B=ECE", "C=EES", "E=b", "E="))
	// Behind others nothing is led to: a terminal, a Non that makes others, one that makes nothing.
	for _, ahead := range []string{"b", "D", "E", "bE", "ED", "FE"} {
		notTwined(t, plain("ab", "SABCDEF", "S=Ab", "S=a", "A=Bb", "B="+ahead+"Cb", "C=Sb", "D=b", "F="))
	}
	// The Non itself counts in what makes the empty word.
	tooTwined(t, plain("ab", "SABC", "S=SAb", "S=", "A=ABb", "A=", "B=BCb", "B=", "C=CSb", "C="))
	notTwined(t, plain("ab", "SABC", "S=a", "S=SAb", "A=ABb", "A=", "B=BCb", "B=", "C=CSb", "C="))
}

func TestTwinedIsThereAndBack(t *testing.T) {
	// One that leads to many that do not lead back.
	b := plain("ab", "S", "S=Sb")
	manyNons(&b, 50)
	for i := 1; i < 50; i++ {
		b.Prods = append(b.Prods, impl.Prod{Left: 2 + i - 1, Right: []int{2 + i, 1}}, impl.Prod{Left: 2 + i, Right: []int{2 + i, 1}})
	}
	b.Prods = append(b.Prods, impl.Prod{Left: 2, Right: []int{0}})
	notTwined(t, b)
	// Rings of three, one behind the other.
	rings := plain("ab", "SABCDEFGH", "S=Ab", "A=Bb", "B=Sb", "B=Cb", "C=Db", "D=Eb", "E=Cb", "E=Fb", "F=Gb", "G=Hb", "H=Fb", "S=a")
	notTwined(t, rings)
	// One step more makes them one of six; one that is not reached from the start counts, too.
	for _, step := range []string{"C=Sb", "D=Ab", "F=Cb", "H=Db", "H=Bb"} {
		more := plain("ab", "SABCDEFGH", step)
		more.Prods = append(more.Prods, rings.Prods...)
		tooTwined(t, more)
	}
	tooTwined(t, plain("ab", "SABCDE", "S=a", "B=Cb", "C=Db", "D=Eb", "E=Bb"))
	// Nor does it matter that they make nothing.
	tooTwined(t, plain("ab", "SABCD", "S=a", "A=B", "B=C", "C=D", "D=A"))
}
