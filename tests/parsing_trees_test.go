package tests

import (
	"math/rand"
	"slices"
	"strings"
	"testing"

	"loop.example/g00037/impl"
)

// shownBy is the text of the tree that TreeOf is to give, without any limit. Of each terminal there are the leaves that come with it, and at last those behind all of them.
func shownBy(b impl.Bnf, whole *growth, words []impl.Word) string {
	groups := []string{""}
	for _, word := range words {
		groups[len(groups)-1] += " " + written(leaf(word.Name, word.Text))
		if !word.Skip {
			groups = append(groups, "")
		}
	}
	var shown func(g *growth) string
	shown = func(g *growth) string {
		if g.prod < 0 {
			group := groups[0]
			groups = groups[1:]
			return group
		}
		kids := ""
		for _, kid := range g.kids {
			kids += shown(kid)
		}
		p := b.Prods[g.prod]
		non := p.Left - len(b.Terms)
		if non >= b.Own {
			return kids
		}
		name := p.Label
		if name == "" {
			name = b.Nons[non]
		}
		return " (" + name + kids + ")"
	}
	text := strings.TrimSuffix(shown(whole), ")")
	return text[1:] + groups[0] + ")"
}

func wantTree(t *testing.T, b impl.Bnf, d []int, words []impl.Word, want string) {
	t.Helper()
	tree, code := impl.TreeOf(b, d, words)
	if code != impl.OK || written(tree) != want {
		t.Errorf("%v: TreeOf %v with %v:\n%s, code %d, and should be\n%s", b, d, words, written(tree), code, want)
		return
	}
	text := ""
	for _, word := range words {
		text += word.Text
	}
	if s, code := impl.TreeYield(tree); s != text || code != impl.OK {
		t.Errorf("%s: yield %q, code %d, and the text is %q", want, s, code, text)
	}
}

func noTree(t *testing.T, b impl.Bnf, d []int, words []impl.Word, want int) {
	t.Helper()
	if tree, code := impl.TreeOf(b, d, words); code != want || !sameTree(tree, impl.Tree{}) {
		t.Errorf("%v: TreeOf %v with %v: %v, code %d, and should be code %d", b, d, words, tree, code, want)
	}
}

// wordsOf are words of terminals, with Skip ones ahead of, between and behind them.
func wordsOf(r *rand.Rand, b impl.Bnf, terms []int) []impl.Word {
	var words []impl.Word
	blanks := func() {
		for n := r.Intn(6) - 3; n > 0; n-- {
			words = append(words, impl.Word{Name: oneOf(r, "Ws", "Lit", "a"), Text: oneOf(r, " ", "", "a"), Skip: true})
		}
	}
	for _, term := range terms {
		blanks()
		name := b.Terms[term].Name
		if lit, isLit := strings.CutPrefix(name, "'"); isLit {
			words = append(words, impl.Word{Name: "Lit", Text: strings.TrimSuffix(lit, "'")})
			continue
		}
		words = append(words, impl.Word{Name: name, Text: oneOf(r, "", "x", "yy\"")})
	}
	blanks()
	return words
}

func TestTreesOfManyDerivations(t *testing.T) {
	r := rand.New(rand.NewSource(11))
	trees := 0
	for _, b := range manyRules(2500) {
		if isCyclic(b) {
			continue
		}
		b.Own = 1 + r.Intn(len(b.Nons))
		for i := range b.Prods {
			b.Prods[i].Label = oneOf(r, "", "Add", "Neg")
		}
		for i := range b.Terms {
			if r.Intn(2) == 0 {
				b.Terms[i].Name = "'" + b.Terms[i].Name + "'"
			}
		}
		all := growths(b, 4, 300)
		if all == nil {
			continue
		}
		for _, word := range allWords(len(b.Terms), 4) {
			for _, one := range all[len(b.Terms)][word] {
				words := wordsOf(r, b, termList(word))
				wantTree(t, b, one.numbers(), words, shownBy(b, one, words))
				trees++
				other := wordsOf(r, b, someWord(r, len(b.Terms), 4))
				if terms, _, _ := impl.Terminals(b, other); !slices.Equal(terms, termList(word)) {
					noTree(t, b, one.numbers(), other, impl.ErrText)
				}
			}
		}
		if t.Failed() {
			t.FailNow()
		}
	}
	if trees < 3000 {
		t.Error(trees)
	}
}

const sums = `language sums;
token Num ~[0-9]+~; token Id ~[a-z]+~; skip Ws ~[ \n]+~; skip Note ~%.*~;
left '+' '-'; right '^';
All = {Set} [Sum];
Set = Id '=' Sum ';';
Sum = Sum '+' Sum # Add | Sum '^' Sum | Num # Num | Id | '(' Sum ')';`

// Texts of a language are read by its own words and its own table.
func TestTreesOfTexts(t *testing.T) {
	g := mustRead(t, sums)
	b := mustLower(t, g)
	rules, _ := impl.LexRules(g)
	table, _ := mustTable(t, b, impl.KdMerged)
	for _, test := range []struct {
		text string
		want string
	}{
		{"", `(All)`},
		{" % none", `(All Ws" " Note"% none")`},
		{"1", `(All (Num Num"1"))`},
		{"1+2^3 +a", `(All (Add (Add (Num Num"1") Lit"+" (Sum (Num Num"2") Lit"^" (Num Num"3"))) Ws" " Lit"+" (Sum Id"a")))`},
		{"a = 1;", `(All (Set Id"a" Ws" " Lit"=" (Num Ws" " Num"1") Lit";"))`},
		{" a=1;b=2; ", `(All (Set Ws" " Id"a" Lit"=" (Num Num"1") Lit";") (Set Id"b" Lit"=" (Num Num"2") Lit";") Ws" ")`},
		{"a=(b)^2^3; a\n", `(All (Set Id"a" Lit"=" (Sum (Sum Lit"(" (Sum Id"b") Lit")") Lit"^" (Sum (Num Num"2") Lit"^" (Num Num"3"))) Lit";") (Sum Ws" " Id"a") Ws"\010")`},
	} {
		words, code, _ := impl.Lex(rules, test.text)
		if code != impl.OK {
			t.Fatalf("%q: Lex: code %d", test.text, code)
		}
		terms, _, code := impl.Terminals(b, words)
		if code != impl.OK {
			t.Fatalf("%q: Terminals: code %d", test.text, code)
		}
		list, code, at := impl.Parse(b, table, terms)
		if code != impl.OK {
			t.Errorf("%q: Parse: code %d at %d", test.text, code, at)
			continue
		}
		wantTree(t, b, list, words, test.want)
	}
}

func aWord(text string) impl.Word { return impl.Word{Name: "a", Text: text} }

func blank(text string) impl.Word { return impl.Word{Name: "Ws", Text: text, Skip: true} }

func TestWhereSkippedWordsGo(t *testing.T) {
	b := plain("a", "SAB", "S=ABA", "A=a", "A=", "B=AA")
	b.Own = 2
	// B has no node of its own.
	words := []impl.Word{blank("1"), blank("2"), aWord("x"), blank("3"), aWord("y"), blank("4"), blank("5")}
	wantTree(t, b, []int{0, 1, 3, 2, 1, 2}, words, `(S (A Ws"1" Ws"2" a"x") (A) (A Ws"3" a"y") (A) Ws"4" Ws"5")`)
	wantTree(t, b, []int{0, 2, 3, 2, 1, 1}, words, `(S (A) (A) (A Ws"1" Ws"2" a"x") (A Ws"3" a"y") Ws"4" Ws"5")`)
	// Without terminals all of them are the last Kids.
	wantTree(t, b, []int{0, 2, 3, 2, 2, 2}, words[:2], `(S (A) (A) (A) (A) Ws"1" Ws"2")`)
	wantTree(t, b, []int{0, 2, 3, 2, 2, 2}, nil, `(S (A) (A) (A) (A))`)
	// Also when the last terminal stands deep in it, and when it is the tree's own.
	b = plain("a", "SA", "S=A", "A=SS", "S=a")
	wantTree(t, b, []int{0, 1, 2, 2}, []impl.Word{aWord("x"), aWord("y"), blank("1")}, `(S (S a"x") (S a"y") Ws"1")`)
	wantTree(t, b, []int{2}, []impl.Word{blank("1"), aWord("x"), blank("2")}, `(S Ws"1" a"x" Ws"2")`)
	// What is Skip may be named as a Term is, or be none.
	skipped := impl.Word{Name: "a", Text: "no", Skip: true}
	wantTree(t, b, []int{2}, []impl.Word{skipped, aWord("x"), {Name: "Q", Skip: true}}, `(S a"no" a"x" Q"")`)
}

func TestTreesThatAreNone(t *testing.T) {
	b := plain("ab", "SA", "S=AA", "A=a", "A=b", "S=")
	b.Own = 2
	words := []impl.Word{aWord("x"), blank(" "), {Name: "b"}}
	wantTree(t, b, []int{0, 1, 2}, words, `(S (A a"x") (A Ws" " b""))`)
	for _, list := range [][]int{nil, {}, {0}, {0, 1}, {0, 1, 2, 2}, {1}, {3}, {0, 2, 1}, {0, 1, 1}, {0, 1, 4}, {-1}} {
		noTree(t, b, list, words, impl.ErrText)
	}
	for _, list := range [][]int{nil, {0, 1, 2}} {
		noTree(t, b, list, []impl.Word{{Name: "c"}}, impl.ErrBad)
		noTree(t, b, list, []impl.Word{aWord("x"), {Name: "Lit", Text: "b"}}, impl.ErrBad)
		noTree(t, impl.Bnf{}, list, words, impl.ErrBad)
		noTree(t, b, list, make([]impl.Word, impl.MaxWords+1), impl.ErrBad)
	}
	noTree(t, b, make([]int, impl.MaxDeriv+1), words, impl.ErrBad)
	noTree(t, b, make([]int, impl.MaxDeriv), words, impl.ErrText)
	wrong := plain("ab", "SA", "S=AA", "A=a", "A=b", "S=")
	wrong.Own = 0
	noTree(t, wrong, []int{0, 1, 2}, words, impl.ErrBad)
	// Words are looked at ahead of the derivation, and that ahead of the tree.
	noTree(t, b, []int{0, 1}, []impl.Word{aWord(strings.Repeat("x", impl.MaxLeaf+1))}, impl.ErrText)
}

func TestTreesThatAreNotRight(t *testing.T) {
	b := plain("a", "S", "S=aS", "S=a")
	// Too deep.
	chain := func(n int) ([]int, []impl.Word) {
		list := make([]int, n)
		list[n-1] = 1
		return list, slices.Repeat([]impl.Word{aWord("")}, n)
	}
	list, words := chain(impl.MaxDepth - 1)
	if tree, code := impl.TreeOf(b, list, words); code != impl.OK || !impl.TreeOK(tree) {
		t.Error(code)
	}
	list, words = chain(impl.MaxDepth)
	noTree(t, b, list, words, impl.ErrFull)
	// Too many; more terminals than Yield tells.
	flat := mustLower(t, mustRead(t, "language l;L={'a'};"))
	rep := func(n int) []int { return slices.Concat([]int{0}, slices.Repeat([]int{2}, n), []int{1}) }
	words = slices.Repeat([]impl.Word{{Name: "Lit", Text: "a"}}, impl.MaxNodes-1)
	wantTree(t, flat, rep(len(words)), words, "(L"+strings.Repeat(` Lit"a"`, impl.MaxNodes-1)+")")
	noTree(t, flat, rep(len(words)), append(words, blank(" ")), impl.ErrFull)
	noTree(t, flat, rep(impl.MaxWords), slices.Repeat(words[:1], impl.MaxWords), impl.ErrFull)
	noTree(t, flat, rep(impl.MaxWords+1), slices.Repeat(words[:1], impl.MaxWords+1), impl.ErrBad)
	// Too long.
	long := strings.Repeat("x", impl.MaxLeaf)
	wantTree(t, b, []int{1}, []impl.Word{aWord(long), blank(long)}, `(S a"`+long+`" Ws"`+long+`")`)
	noTree(t, b, []int{1}, []impl.Word{aWord(long + "x")}, impl.ErrFull)
	noTree(t, b, []int{1}, []impl.Word{aWord(long), blank(long + "x")}, impl.ErrFull)
	// Names that are none: of a word, and of a Non without a Label.
	noTree(t, b, []int{1}, []impl.Word{aWord(""), {Name: "", Skip: true}}, impl.ErrFull)
	b.Terms[0].Name = "1"
	noTree(t, b, []int{1}, []impl.Word{{Name: "1"}}, impl.ErrFull)
	b.Terms[0].Name = "a"
	b.Nons[0] = "S:1"
	noTree(t, b, []int{1}, []impl.Word{aWord("")}, impl.ErrFull)
	b.Prods[1].Label = "Leaf"
	wantTree(t, b, []int{1}, []impl.Word{aWord("")}, `(Leaf a"")`)
	noTree(t, b, []int{0, 1}, []impl.Word{aWord(""), aWord("")}, impl.ErrFull)
}

func TestTreesKeepAndShareNothing(t *testing.T) {
	b := plain("a", "SAB", "S=ABA", "A=a", "A=", "B=AA")
	b = roomyRules(b)
	kept := copyRules(b)
	words := append(make([]impl.Word, 0, 9), blank("1"), aWord("x"), aWord("y"), blank("2"))
	list := append(make([]int, 0, 9), 0, 1, 3, 2, 1, 2)
	wasWords, wasList := slices.Clone(words[:9]), slices.Clone(list[:9])
	tree, _ := impl.TreeOf(b, list, words)
	again, _ := impl.TreeOf(b, list, words)
	want := `(S Ws"1" a"x" a"y" Ws"2")`
	if written(tree) != want {
		t.Error(written(tree))
	}
	othersAreApart(t, tree, again)
	spoil(tree)
	wantTree(t, b, list, words, want)
	if !slices.Equal(words[:9], wasWords) || !slices.Equal(list[:9], wasList) || !sameBnf(copyRules(b), kept) {
		t.Error("written into")
	}
}

// othersAreApart writes behind each list of Kids: no other one is to change.
func othersAreApart(t *testing.T, tree impl.Tree, again impl.Tree) {
	t.Helper()
	var visit func(one impl.Tree)
	visit = func(one impl.Tree) {
		_ = append(one.Kids, leaf("spoilt", "spoilt"))
		if !sameTree(tree, again) {
			t.Fatalf("Kids are shared: %s", written(tree))
		}
		for _, kid := range one.Kids {
			visit(kid)
		}
	}
	visit(tree)
}
