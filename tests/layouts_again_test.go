package tests

import (
	"math/rand"
	"slices"
	"strings"
	"testing"

	"loop.example/g00037/impl"
)

// tongue is a language in which texts are set anew, with some texts for each of its tokens, and some that may stand between words.
type tongue struct {
	name   string
	source string
	rules  []impl.Rule
	b      impl.Bnf
	table  impl.Table
	tokens map[string][]string
	gaps   []string
}

func tongueOf(t *testing.T, source string, tokens map[string][]string, gaps ...string) tongue {
	t.Helper()
	g := mustRead(t, source)
	b := mustLower(t, g)
	rules, code := impl.LexRules(g)
	if code != impl.OK {
		t.Fatalf("LexRules of %s: %d", source, code)
	}
	table, _ := mustTable(t, b, impl.KdMerged)
	return tongue{name: g.Name, source: source, rules: rules, b: b, table: table, tokens: tokens, gaps: gaps}
}

// read is the tree of a text, if it is one of the language.
func (l tongue) read(text string) (impl.Tree, bool) {
	words, code, _ := impl.Lex(l.rules, text)
	if code != impl.OK {
		return impl.Tree{}, false
	}
	terms, _, code := impl.Terminals(l.b, words)
	if code != impl.OK {
		return impl.Tree{}, false
	}
	list, code, _ := impl.Parse(l.b, l.table, terms)
	if code != impl.OK {
		return impl.Tree{}, false
	}
	x, code := impl.TreeOf(l.b, list, words)
	return x, code == impl.OK
}

// someText puts gaps between the words; it need not be one of the language, where words that stand side by side become one.
func (l tongue) someText(r *rand.Rand, depth int) string {
	gap := func() string { return oneOf(r, append([]string{" ", " ", "\n"}, l.gaps...)...) }
	text := ""
	if r.Intn(2) == 0 {
		text = gap()
	}
	list, _, _ := someDerivation(r, l.b, depth, 300)
	terms, _ := impl.Yield(l.b, 0, list)
	for _, term := range terms {
		name := l.b.Terms[term].Name
		if lit, isLit := strings.CutPrefix(name, "'"); isLit {
			text += strings.TrimSuffix(lit, "'")
		} else {
			text += oneOf(r, l.tokens[name]...)
		}
		text += gap()
		for r.Intn(4) == 0 {
			text += gap()
		}
	}
	return text
}

// cleaned has no blanks between its words, and trimmed notes where they stood.
func cleaned(rules []impl.Rule, x impl.Tree) impl.Tree {
	var kids []impl.Tree
	for _, kid := range x.Kids {
		if kid.Leaf && skips(rules, kid.Name) {
			kid.Text = trimmedBy(kid.Text)
			if kid.Text == "" {
				continue
			}
		}
		kids = append(kids, cleaned(rules, kid))
	}
	x.Kids = kids
	return x
}

// staysSet is promise 23; read tells what a text's tree is. It tells whether it could be asked.
func staysSet(t *testing.T, rules []impl.Rule, x impl.Tree, width int, read func(text string) (impl.Tree, bool)) bool {
	t.Helper()
	text, code := checkFormat(t, rules, x, width)
	if code != impl.OK || len(text) > impl.MaxText {
		return false
	}
	if !slices.Equal(wordsAndNotesOf(t, rules, text), wordsAndNotes(rules, x)) {
		t.Fatalf("%s to %d has other words: %q", written(x), width, text)
	}
	again, found := read(text)
	if !found || !sameTree(cleaned(rules, again), cleaned(rules, x)) {
		t.Fatalf("%s to %d: %q, which is read as %s", written(x), width, text, written(again))
	}
	if twice, code := impl.Format(rules, again, width); twice != text || code != impl.OK {
		t.Fatalf("%s to %d: %q, and then %q, %d", written(x), width, text, twice, code)
	}
	return true
}

func tongues(t *testing.T) []tongue {
	t.Helper()
	words := map[string][]string{"Num": {"0", "12", "34567"}, "Id": {"x", "ab", "counter"}}
	return []tongue{
		blocks(t),
		tongueOf(t, sums, words, "", "% so\n", " %\n", "%  two words  \n\n"),
		tongueOf(t, `language lists; token Id ~[a-z]+~; skip Ws ~[ \n]+~; skip Rem ~#[^#\n]*#?~;
List = '(' {Item} ')'; Item = Id # Word | List;`, words, "", "#a b#", "# to the end \n", "##"),
		tongueOf(t, `language gaps; skip Ws ~ +~; skip Lf ~\n~; skip Note ~%+~;
All = A B C; A = ['a']; B = {'b' D}; C = ['c' All]; D = ;`, words, "", "%", "%%%", " % %"),
	}
}

// blocks has notes that bring the end of their line along.
func blocks(t *testing.T) tongue {
	t.Helper()
	words := map[string][]string{"Num": {"0", "12", "34567"}, "Id": {"x", "ab", "counter"}}
	return tongueOf(t, `language blocks;
token Num ~[0-9]+~; token Id ~[a-z]+~; skip Blank ~ ~; skip Feed ~\n~; skip Note ~%[^\n]*\n~; skip Rem ~#[^#]*#~;
Block = '{' {Stmt} '}';
Stmt = Id '=' Val ';' # Set | 'if' Val Block ['else' Block] # If | Block;
Val = Num | Id | Id '(' [Val {',' Val}] ')' # Call;`, words, "", "% so\n", "#a#", "# a # ", "%\n")
}

func TestTextsThatAreSetAnew(t *testing.T) {
	r := rand.New(rand.NewSource(35))
	for _, l := range tongues(t) {
		isNote := func(w named) bool { return skips(l.rules, w.name) }
		asked, noted := 0, 0
		for range 250 {
			x, found := l.read(l.someText(r, 2+r.Intn(8)))
			if !found {
				continue
			}
			for _, width := range []int{0, 1 + r.Intn(12), 13 + r.Intn(20), 80} {
				if !staysSet(t, l.rules, x, width, l.read) {
					continue
				}
				asked++
				if slices.ContainsFunc(wordsAndNotes(l.rules, x), isNote) {
					noted++
				}
			}
		}
		if asked < 300 || noted < 150 {
			t.Errorf("%s: asked %d times, with notes %d", l.name, asked, noted)
		}
	}
}

func TestTextsThatAreSetAnewAsWritten(t *testing.T) {
	l := blocks(t)
	for _, test := range []struct {
		text  string
		width int
		want  string
	}{
		{"{}", 80, "{ }\n"},
		{" {\n\n} ", 2, "{ }\n"},
		{"{x=1;}", 80, "{ x = 1 ; }\n"},
		{"{x=1;y=2;}", 12, "{\n  x = 1 ;\n  y = 2 ;\n  }\n"},
		{"{x=f(1,y);}", 15, "{\n  x\n    =\n    f ( 1 , y )\n    ;\n  }\n"},
		{"{% one \nx=1;#two#}% three\n", 80, "{ % one\n    x = 1 ; #two#\n  } % three\n"},
		{"% none\n{}", 80, "% none\n  { }\n"},
		{"{if x{}else{y=2;}}", 80, "{ if x { } else { y = 2 ; } }\n"},
		{"{if x{}else{y=2;}}", 16, "{\n  if\n    x\n    { }\n    else\n    { y = 2 ; }\n  }\n"},
	} {
		x, found := l.read(test.text)
		if !found {
			t.Fatalf("%q is not read", test.text)
		}
		if text, code := checkFormat(t, l.rules, x, test.width); text != test.want || code != impl.OK {
			t.Errorf("%q to %d: %q, %d and should be %q", test.text, test.width, text, code, test.want)
		}
		if !staysSet(t, l.rules, x, test.width, l.read) {
			t.Errorf("%q was not asked", test.text)
		}
	}
}

// wordsAlone is a tree without what stands between its words.
func wordsAlone(rules []impl.Rule, x impl.Tree) impl.Tree {
	var kids []impl.Tree
	for _, kid := range x.Kids {
		if !kid.Leaf || !skips(rules, kid.Name) {
			kids = append(kids, wordsAlone(rules, kid))
		}
	}
	x.Kids = kids
	return x
}

// respaced is a tree of words alone, with what stands between the words of a text put where TreeOf puts it.
func respaced(x impl.Tree, words []impl.Word) impl.Tree {
	gap := func() []impl.Tree {
		var between []impl.Tree
		for len(words) > 0 && words[0].Skip {
			between = append(between, leaf(words[0].Name, words[0].Text))
			words = words[1:]
		}
		return between
	}
	var through func(x impl.Tree) impl.Tree
	through = func(x impl.Tree) impl.Tree {
		var kids []impl.Tree
		for _, kid := range x.Kids {
			if !kid.Leaf {
				kids = append(kids, through(kid))
				continue
			}
			kids = append(append(kids, gap()...), leaf(words[0].Name, words[0].Text))
			words = words[1:]
		}
		return node(x.Name, kids...)
	}
	all := through(x)
	all.Kids = append(all.Kids, gap()...)
	return all
}

// nestedNotes have notes of many words, one in the other.
func nestedNotes() []impl.Rule {
	return []impl.Rule{
		{Name: "Id", Rx: "[a-z]+", In: "main"},
		{Name: "Num", Rx: "[0-9]+", In: "main"},
		{Name: "Sign", Rx: "[+(]", In: "main"},
		{Name: "Ws", Rx: " |\\n", In: "main", Skip: true},
		{Name: "Open", Rx: "<", In: "main", To: "note", Skip: true},
		{Name: "Open", Rx: "<", In: "note", To: "note", Skip: true},
		{Name: "Shut", Rx: ">", In: "note", To: "pop", Skip: true},
		{Name: "Text", Rx: "[a-z]+", In: "note", Skip: true},
		{Name: "Ws", Rx: "[ \\n]+", In: "note", Skip: true},
	}
}

// Trees of any form, which no grammar needs to have.
func TestTreesThatAreSetAnew(t *testing.T) {
	r := rand.New(rand.NewSource(36))
	for _, test := range []struct {
		rules []impl.Rule
		gaps  []string
	}{
		{noteRules(), []string{" ", " ", "\n", "% so\n", "% to  the end \n", "%\n", "#a#", "# a # "}},
		{nestedNotes(), []string{" ", " ", "\n ", "<>", "<a b>", "< a <b>\n c>"}},
	} {
		asked := 0
		for range 700 {
			bare := wordsAlone(noteRules(), node("All", someFormed(r, 1+r.Intn(3)), someFormed(r, 1+r.Intn(3))))
			text := ""
			for _, word := range wordsAndNotes(noteRules(), bare) {
				text += word.text + oneOf(r, test.gaps...)
			}
			read := func(text string) (impl.Tree, bool) {
				words, code, _ := impl.Lex(test.rules, text)
				return respaced(bare, words), code == impl.OK
			}
			if x, _ := read(text); staysSet(t, test.rules, x, oneOf(r, 0, 4, 9, 15, 30, 80), read) {
				asked++
			}
		}
		if asked < 300 {
			t.Error(asked)
		}
	}
}
