package tests

import (
	"math"
	"slices"
	"strconv"
	"strings"
	"testing"

	"loop.example/g00037/impl"
)

// smallBnf has terms 0 and 1, and Nons 2 and 3.
func smallBnf() impl.Bnf {
	return impl.Bnf{
		Terms: []impl.Term{{Name: "T"}, {Name: "'+'", Level: 1, Assoc: impl.AsLeft}},
		Nons:  []string{"A", "A:1"},
		Own:   1,
		Prods: []impl.Prod{{Left: 2, Right: []int{2, 1, 3}, Label: "Add", Level: 1, Assoc: impl.AsLeft}, {Left: 3}},
	}
}

func TestRightBnfs(t *testing.T) {
	for name, change := range map[string]func(b *impl.Bnf){
		"as it is": func(b *impl.Bnf) {},
		"no terms": func(b *impl.Bnf) {
			*b = impl.Bnf{Nons: []string{"A"}, Own: 1, Prods: []impl.Prod{{Right: []int{0, 0}}}}
		},
		"no prods":          func(b *impl.Bnf) { b.Prods = nil },
		"all are own":       func(b *impl.Bnf) { b.Own = 2 },
		"names of any kind": func(b *impl.Bnf) { b.Terms[0].Name, b.Nons[0], b.Nons[1] = "", "", "\xff '" },
		"a term and a non":  func(b *impl.Bnf) { b.Terms[0].Name = "A" },
		"no label":          func(b *impl.Bnf) { b.Prods[0].Label = "" },
		"a word as label":   func(b *impl.Bnf) { b.Prods[0].Label = "left" },
		"a label twice":     func(b *impl.Bnf) { b.Prods[1].Label = "Add" },
		"the longest label": func(b *impl.Bnf) { b.Prods[0].Label = strings.Repeat("n", impl.MaxName) },
		"the highest level": func(b *impl.Bnf) {
			b.Terms[1].Level, b.Prods[1].Level, b.Prods[1].Assoc = impl.MaxLevels, impl.MaxLevels, 3
		},
		"a level of its own":   func(b *impl.Bnf) { b.Prods[0].Level, b.Prods[0].Assoc = 5, impl.AsRight },
		"no level":             func(b *impl.Bnf) { b.Prods[0].Level, b.Prods[0].Assoc = 0, 0 },
		"the longest right":    func(b *impl.Bnf) { b.Prods[1].Right = slices.Repeat([]int{3}, impl.MaxRight) },
		"prods of no order":    func(b *impl.Bnf) { slices.Reverse(b.Prods) },
		"as many terms":        func(b *impl.Bnf) { manyTerms(b, impl.MaxTerms) },
		"as many nons":         func(b *impl.Bnf) { manyNons(b, impl.MaxNons) },
		"as many prods":        func(b *impl.Bnf) { b.Prods = slices.Repeat(b.Prods[1:], impl.MaxProds) },
		"as many of all kinds": func(b *impl.Bnf) { manyNons(b, impl.MaxNons); manyTerms(b, impl.MaxTerms); b.Own = impl.MaxNons },
	} {
		b := smallBnf()
		change(&b)
		if !impl.BnfOK(b) {
			t.Errorf("%s: %v", name, b)
		}
	}
}

// manyTerms leaves the Prods with symbols that are still right.
func manyTerms(b *impl.Bnf, n int) {
	for i := len(b.Terms); i < n; i++ {
		b.Terms = append(b.Terms, impl.Term{Name: "T" + strconv.Itoa(i)})
	}
	b.Prods = []impl.Prod{{Left: n, Right: []int{0, n - 1, n, n + len(b.Nons) - 1}}}
}

func manyNons(b *impl.Bnf, n int) {
	for i := len(b.Nons); i < n; i++ {
		b.Nons = append(b.Nons, "N"+strconv.Itoa(i))
	}
}

func TestWrongBnfs(t *testing.T) {
	for name, change := range map[string]func(b *impl.Bnf){
		"nothing":              func(b *impl.Bnf) { *b = impl.Bnf{} },
		"no nons":              func(b *impl.Bnf) { b.Nons, b.Prods = nil, nil },
		"no nons and none own": func(b *impl.Bnf) { b.Nons, b.Prods, b.Own = nil, nil, 0 },
		"none is own":          func(b *impl.Bnf) { b.Own = 0 },
		"own below":            func(b *impl.Bnf) { b.Own = -1 },
		"own above":            func(b *impl.Bnf) { b.Own = 3 },
		"terms alike":          func(b *impl.Bnf) { b.Terms[1].Name = "T" },
		"empty terms alike":    func(b *impl.Bnf) { b.Terms[0].Name, b.Terms[1].Name = "", "" },
		"nons alike":           func(b *impl.Bnf) { b.Nons[1] = "A" },
		"level below":          func(b *impl.Bnf) { b.Terms[1].Level = -1 },
		"level above":          func(b *impl.Bnf) { b.Terms[1].Level = impl.MaxLevels + 1 },
		"level without assoc":  func(b *impl.Bnf) { b.Terms[1].Assoc = 0 },
		"assoc without level":  func(b *impl.Bnf) { b.Terms[0].Assoc = 1 },
		"assoc above":          func(b *impl.Bnf) { b.Terms[1].Assoc = 4 },
		"assoc below":          func(b *impl.Bnf) { b.Terms[1].Assoc = -1 },
		"a prod's level below": func(b *impl.Bnf) { b.Prods[0].Level = -1 },
		"a prod's level above": func(b *impl.Bnf) { b.Prods[0].Level = impl.MaxLevels + 1 },
		"a prod's level alone": func(b *impl.Bnf) { b.Prods[0].Assoc = 0 },
		"a prod's assoc alone": func(b *impl.Bnf) { b.Prods[1].Assoc = 2 },
		"a prod's assoc above": func(b *impl.Bnf) { b.Prods[0].Assoc = 4 },
		"left is a term":       func(b *impl.Bnf) { b.Prods[0].Left = 1 },
		"left below":           func(b *impl.Bnf) { b.Prods[0].Left = math.MinInt },
		"left above":           func(b *impl.Bnf) { b.Prods[0].Left = 4 },
		"right below":          func(b *impl.Bnf) { b.Prods[0].Right[0] = -1 },
		"right above":          func(b *impl.Bnf) { b.Prods[0].Right[2] = 4 },
		"right far above":      func(b *impl.Bnf) { b.Prods[0].Right[2] = math.MaxInt },
		"right too long":       func(b *impl.Bnf) { b.Prods[1].Right = slices.Repeat([]int{3}, impl.MaxRight+1) },
		"no name as label":     func(b *impl.Bnf) { b.Prods[1].Label = "1" },
		"a label too long":     func(b *impl.Bnf) { b.Prods[1].Label = strings.Repeat("n", impl.MaxName+1) },
		"too many terms":       func(b *impl.Bnf) { manyTerms(b, impl.MaxTerms+1) },
		"too many nons":        func(b *impl.Bnf) { manyNons(b, impl.MaxNons+1) },
		"too many prods":       func(b *impl.Bnf) { b.Prods = slices.Repeat(b.Prods[1:], impl.MaxProds+1) },
	} {
		b := smallBnf()
		change(&b)
		if impl.BnfOK(b) {
			t.Errorf("%s: %v", name, b)
		}
		noTerminals(t, b, nil, impl.ErrBad)
	}
}
