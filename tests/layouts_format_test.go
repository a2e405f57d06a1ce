package tests

import (
	"math"
	"math/rand"
	"slices"
	"strings"
	"testing"

	"loop.example/g00037/impl"
)

func TestFormat(t *testing.T) {
	for _, test := range []struct {
		why, tree string
		width     int
		want      string
	}{
		{"a word alone", `Id"abc"`, 80, "abc\n"},
		{"a word that does not fit", `Id"abc"`, 0, "abc\n"},
		{"a word of no rule", `Other"a b"`, 80, "a b\n"},
		{"a word of each byte but the line feed", `Other"\000\009\013\255"`, 80, "\x00\t\r\xff\n"},
		{"a word without a byte", `Id""`, 80, "\n"},
		{"a word without a byte, in a node", `(S (A Id"" Ws" "))`, 80, "\n"},
		{"two words without a byte", `(S Id"" Id"")`, 80, "\n"},
		{"words without a byte beside one with", `(S Id"" Id"a" Id"")`, 80, " a\n"},
		{"a word of blanks", `Id"  "`, 80, "\n"},
		{"blanks ahead of a word's bytes stay", `Id" a "`, 80, " a\n"},
		{"blanks alone", `Ws" "`, 80, ""},
		{"blanks without a byte", `Ws""`, 80, ""},
		{"a note of blanks", `Note"  "`, 80, ""},
		{"a line feed alone, between words", `Note"\010"`, 80, ""},
		{"a note alone", `Note"% n"`, 80, "% n\n"},
		{"a note alone, in nodes", `(S (A (B) (C Ws" " Note"% n ")))`, 80, "% n\n"},
		{"a note that does not fit", `Note"% n"`, 0, "% n\n"},

		{"a node without kids", `(S)`, 80, ""},
		{"nodes without words", `(S (A) (B (C) Ws" "))`, 80, ""},
		{"just one gives something", `(S (A) (B (C Id"a") (D)) Ws" ")`, 80, "a\n"},
		{"one in one in one", `(S (A (B (C Id"a" Id"b"))))`, 80, "a b\n"},
		{"one in one that is broken", `(S (A (B (C Id"aaa" Id"b"))))`, 4, "aaa\n  b\n"},
		{"those that give nothing bring no blank", `(S (A) Id"a" (B) Ws" " Id"b" (C))`, 80, "a b\n"},

		{"it fits", `(S Id"aa" (A Id"b" Id"c"))`, 6, "aa b c\n"},
		{"it does not fit", `(S Id"aa" (A Id"b" Id"c"))`, 5, "aa\n  b c\n"},
		{"the inner one is as long when it is broken", `(S Id"aa" (A Id"b" Id"cc"))`, 5, "aa\n  b cc\n"},
		{"broken within", `(S Id"aa" (A Id"bb" Id"cc"))`, 6, "aa\n  bb\n    cc\n"},
		{"the inner one overflows as much when it is broken", `(S Id"aa" (A Id"bb" Id"cc"))`, 3, "aa\n  bb cc\n"},
		{"the first one of two", `(S (A Id"aaaa" Id"a") (B Id"b" Id"c"))`, 5, "aaaa\n    a\n  b c\n"},

		{"a note ahead", `(S Note"% n" Id"a" Id"b")`, 80, "% n\n  a b\n"},
		{"a note between", `(S Id"a" Note"% n" Id"b")`, 80, "a % n\n  b\n"},
		{"a note behind", `(S Id"a" Id"b" Note"% n")`, 80, "a b % n\n"},
		{"a note that stands on its own line", `(S Id"aaaa" Note"% n" Id"b")`, 7, "aaaa\n  % n\n  b\n"},
		{"notes one behind the other", `(S Id"a" Note"% n" Ws"\010" Note"% m" Rem"# r #" Id"b")`, 80, "a % n\n  % m\n  # r #\n  b\n"},
		{"notes ahead", `(S Note"% n" Note"% m" Id"a")`, 80, "% n\n  % m\n  a\n"},
		{"notes behind", `(S Id"a" Note"% n" Note"% m")`, 80, "a % n\n  % m\n"},
		{"notes and no word", `(S Note"% n" Note"% m")`, 80, "% n\n  % m\n"},
		{"a node of one note ahead", `(S (A Note"% n") Id"a")`, 80, "% n\n  a\n"},
		{"a node of a node of one note ahead", `(S (A Ws" " (B (C) Note"% n")) Id"a")`, 80, "% n\n  a\n"},
		{"a node of one note behind", `(S Id"a" (A Note"% n"))`, 80, "a % n\n"},
		{"nodes of one note each", `(S (A Note"% n") (B Note"% m"))`, 80, "% n\n  % m\n"},
		{"a node of two notes: a line behind it", `(S (A Note"% n" Note"% m") Id"a")`, 80, "% n\n    % m\n     a\n"},
		{"a node of two notes, behind a word", `(S Id"a" (A Note"% n" Note"% m") Id"b")`, 80, "a % n\n    % m\n     b\n"},
		{"a node that ends with a note: a line behind it", `(S (A Id"a" Note"% n") Id"b")`, 80, "a % n\n     b\n"},
		{"a node that begins with a note", `(S Id"a" (A Note"% n" Id"b") Id"c")`, 80, "a % n\n    b c\n"},
		{"a note in a node in a node", `(S Id"a" (A Id"b" (B Note"% n" Id"c")))`, 80, "a b % n\n      c\n"},
		{"two nodes, each with a note in it", `(S (A Note"% n" Id"a") (B Note"% m" Id"b"))`, 80, "% n\n    a % m\n    b\n"},
		{"a node that ends with a note, that is broken", `(S (A Id"aaaa" Note"% n") Id"b")`, 7, "aaaa\n    % n\n\n  b\n"},

		{"blanks around a note", `(S Id"a" Note"  % n  " Id"b")`, 80, "a % n\n  b\n"},
		{"line feeds around a note", `(S Id"a" Note"\010 \010% n\010\010 " Id"b")`, 80, "a % n\n  b\n"},
		{"blanks within a note stay", `(S Id"a" Note"%  n   m " Id"b")`, 80, "a %  n   m\n  b\n"},
		{"blanks around what is Skip, whatever it is called", `(S Ws" x " Id"b")`, 80, "x\n  b\n"},
		{"other bytes are no blanks", `(S Ws"\009" Id"b")`, 80, "\t\n  b\n"},
		{"blanks at the ends of lines go", `(S Other"a  " Other"b  ")`, 3, "a\n  b\n"},
		{"blanks at the ends of lines count for the width", `(S Id"aaaa" Other"b   ")`, 6, "aaaa\n  b\n"},
		{"blanks and line feeds behind the last note go", `(S Id"a" (A Id"b" (B Id"c" Note"%")))`, 80, "a b c %\n"},
	} {
		wantFormat(t, test.why, tree(test.tree), test.width, test.want)
	}
}

func TestFormatOfLineFeeds(t *testing.T) {
	for _, text := range []string{
		`Id"a\010b"`, `Id"\010"`, `Id"a\010"`, `Id"\010a"`, `(S Id"a" (A Id"b" Other"\010"))`,
		`Note"% a\010b"`, `Note"  % a \010 \010 b "`, `(S Id"a" Rem"# a\010#" Id"b")`, `(S (A (B Ws"x\010x")))`,
	} {
		noFormat(t, text, noteRules(), tree(text), 80, impl.ErrForm)
		checkFormat(t, noteRules(), tree(text), 80)
	}
	// It is told ahead of what is too large.
	large := node("S", slices.Repeat([]impl.Tree{leaf("Id", "a")}, impl.MaxLay)...)
	noFormat(t, "too large", noteRules(), large, 80, impl.ErrFull)
	large.Kids[impl.MaxLay-1].Text = "a\n"
	noFormat(t, "too large, and a line feed in the last word", noteRules(), large, 80, impl.ErrForm)
	large.Kids[impl.MaxLay-1] = leaf("Note", "% a\n% b")
	noFormat(t, "too large, and a line feed in the last note", noteRules(), large, 80, impl.ErrForm)
}

// A leaf is between the words when some rule of its name is Skip, whatever the others are.
func TestWhatIsBetweenWords(t *testing.T) {
	rules := []impl.Rule{
		{Name: "Both", Rx: "a", In: "main"},
		{Name: "Both", Rx: "b", In: "main", Skip: true},
		{Name: "Far", Rx: "c", In: "other", To: "pop", Skip: true},
		{Name: "Word", Rx: "d", In: "other", Skip: false},
		{Name: "Lit", Rx: " ", In: "main", Skip: true},
	}
	for text, want := range map[string]string{
		`(S Both" a " Word"d")`:         "a\n  d\n",
		`(S Far" c " Word"d")`:          "c\n  d\n",
		`(S Word"c" Lit"  " Word"d")`:   "c d\n",
		`(S Word"c" Lit" x " Word"d")`:  "c x\n  d\n",
		`(S Word"c" Both" " Far"\010")`: "c\n",
		`(S word"c" lit" " Word"d")`:    "c   d\n",
	} {
		if got, code := checkFormat(t, rules, tree(text), 80); got != want || code != impl.OK {
			t.Errorf("%s: %q, %d and should be %q", text, got, code, want)
		}
	}
	// Without rules all leaves are words.
	if text, code := checkFormat(t, nil, tree(`(S Ws" " Note"% n" Id"a")`), 80); text != "  % n a\n" || code != impl.OK {
		t.Errorf("%q, %d", text, code)
	}
}

func TestLimitsOfFormat(t *testing.T) {
	words := func(n int) []impl.Tree { return slices.Repeat([]impl.Tree{leaf("Id", "a")}, n) }
	notes := func(n int) []impl.Tree { return slices.Repeat([]impl.Tree{leaf("Note", "%")}, n) }
	isFull := func(why string, x impl.Tree) {
		t.Helper()
		noFormat(t, why, noteRules(), x, 80, impl.ErrFull)
		checkFormat(t, noteRules(), x, 80)
	}
	// Each word with a line behind it, but the last; and three nodes for the whole.
	most := (impl.MaxLay - 2) / 2
	wantFormat(t, "MaxLay nodes", node("S", words(most)...), impl.MaxWidth, strings.Repeat("a ", most-1)+"a\n")
	isFull("one word more", node("S", words(most+1)...))
	isFull("many more", node("S", words(impl.MaxNodes-1)...))
	wantFormat(t, "words that are left out", node("S", append(words(most), slices.Repeat([]impl.Tree{leaf("Ws", " "), node("E")}, 100)...)...), impl.MaxWidth, strings.Repeat("a ", most-1)+"a\n")
	// A note is two nodes, without a line behind it.
	wantFormat(t, "MaxLay nodes, with notes", node("S", append(notes(most-2), words(2)...)...), 80, strings.Repeat("%\n  ", most-2)+"a a\n")
	isFull("one note more", node("S", append(notes(most-1), words(2)...)...))
	wantFormat(t, "notes alone", node("S", notes(most-1)...), 80, strings.Repeat("%\n  ", most-2)+"%\n")
	isFull("one more of them", node("S", notes(most)...))
	wantFormat(t, "notes, each in a node", node("S", append(slices.Repeat([]impl.Tree{node("N", leaf("Note", "%"))}, most-1), words(1)...)...), 80, strings.Repeat("%\n  ", most-1)+"a\n")

	tower := func(n int) impl.Tree {
		x := leaf("Id", "b")
		for range n {
			x = node("S", leaf("Id", "a"), x)
		}
		return x
	}
	wantFormat(t, "MaxGroups one in the other", tower(impl.MaxGroups), 80, strings.Repeat("a ", impl.MaxGroups)+"b\n")
	isFull("one group more", tower(impl.MaxGroups+1))
	beside := func(n int) impl.Tree {
		return node("S", slices.Repeat([]impl.Tree{node("A", words(2)...)}, n)...)
	}
	wantFormat(t, "MaxGroups, all but one beside each other", beside(impl.MaxGroups-1), 3, "a a\n"+strings.Repeat("  a a\n", impl.MaxGroups-2))
	isFull("one group more beside", beside(impl.MaxGroups))
	wantFormat(t, "nodes of one kid are no groups", node("S", tower(impl.MaxGroups)), 80, strings.Repeat("a ", impl.MaxGroups)+"b\n")
	deepest := leaf("Id", "a")
	for range impl.MaxDepth - 1 {
		deepest = node("S", leaf("Ws", " "), deepest)
	}
	wantFormat(t, "MaxDepth", deepest, 80, "a\n")
	wantFormat(t, "MaxLeaf bytes", leaf("Id", strings.Repeat("a", impl.MaxLeaf)), 80, strings.Repeat("a", impl.MaxLeaf)+"\n")
	wantFormat(t, "MaxNodes that give nothing", node("S", slices.Repeat([]impl.Tree{leaf("Ws", " ")}, impl.MaxNodes-1)...), 80, "")
}

func TestFormatOfWrongInputs(t *testing.T) {
	right := tree(`(S Id"a" Id"b")`)
	rules := noteRules()
	for _, width := range []int{-1, impl.MaxWidth + 1, math.MinInt, math.MaxInt} {
		noFormat(t, "a wrong width", rules, right, width, impl.ErrBad)
		noFormat(t, "a wrong width, and nothing to set", rules, node("S"), width, impl.ErrBad)
		noFormat(t, "a wrong width, and a line feed", rules, leaf("Id", "\n"), width, impl.ErrBad)
	}
	wantFormat(t, "the greatest width", right, impl.MaxWidth, "a b\n")
	wantFormat(t, "the least width", right, 0, "a b\n")
	for why, x := range wrongTrees() {
		noFormat(t, why, rules, x, 80, impl.ErrBad)
	}
	noFormat(t, "a tree that is too large, and a line feed", rules, node("S", leaf("Id", "\n"), wide(impl.MaxNodes)), 80, impl.ErrBad)
	one := impl.Rule{Name: "Id", Rx: "a", In: "main"}
	for why, wrong := range map[string][]impl.Rule{
		"no name":            {{Rx: "a", In: "main"}},
		"a name that's none": {{Name: "1", Rx: "a", In: "main"}},
		"no mode":            {{Name: "Id", Rx: "a"}},
		"a mode to none":     {{Name: "Id", Rx: "a", In: "main", To: "-"}},
		"no pattern":         {{Name: "Id", Rx: "(", In: "main"}},
		"an empty pattern":   {{Name: "Id", In: "main"}},
		"reads nothing":      {{Name: "Id", Rx: "a*", In: "main"}},
		"a long pattern":     {{Name: "Id", Rx: strings.Repeat("a", impl.MaxRx+1), In: "main"}},
		"the last of two":    {one, {}},
		"too many":           slices.Repeat([]impl.Rule{one}, impl.MaxRules+1),
	} {
		noFormat(t, why, wrong, right, 80, impl.ErrBad)
		noFormat(t, why+", and a line feed", wrong, leaf("Id", "\n"), 80, impl.ErrBad)
		noFormat(t, why+", and nothing to set", wrong, node("S"), 80, impl.ErrBad)
	}
	if text, code := impl.Format(slices.Repeat([]impl.Rule{one}, impl.MaxRules), right, 80); text != "a b\n" || code != impl.OK {
		t.Errorf("MaxRules: %q, %d", text, code)
	}
}

func TestFormatWritesNowhere(t *testing.T) {
	x := roomy(tree(`(S Id"a" (A Note" % n " Id"b") Ws" " (B) (C Id"c" (D Id"d")))`))
	was := copyTree(x)
	rules := append(make([]impl.Rule, 0, 20), noteRules()...)
	for width := range 12 {
		checkFormat(t, rules, x, width)
	}
	if !sameTree(x, was) || !sparesKept(x) {
		t.Error("the tree was written into")
	}
	if !slices.Equal(rules, noteRules()) || slices.ContainsFunc(rules[len(rules):cap(rules)], func(rule impl.Rule) bool { return rule != impl.Rule{} }) {
		t.Error("the rules were written into")
	}
}

func TestFormatOfMany(t *testing.T) {
	r := rand.New(rand.NewSource(34))
	codes := map[int]int{}
	for range 3000 {
		x := someFormed(r, 1+r.Intn(4))
		spoilt := r.Intn(20) == 0
		if spoilt {
			x = node("S", x, leaf(oneOf(r, "Id", "Note", "Rem"), oneOf(r, "#\n#", "a\n", "\nb", "\n")))
		}
		if _, gives := bareOf(noteRules(), x); !gives {
			codes[-1]++
		}
		for _, width := range []int{0, 1 + r.Intn(8), 9 + r.Intn(20), 60} {
			text, code := checkFormat(t, noteRules(), x, width)
			codes[code]++
			if code == impl.OK && !spoilt && !slices.Equal(wordsAndNotesOf(t, noteRules(), text), wordsAndNotes(noteRules(), x)) {
				t.Fatalf("%s to %d has other words: %q", written(x), width, text)
			}
		}
	}
	if codes[impl.OK] < 5000 || codes[impl.ErrForm] < 100 || codes[impl.ErrFull] < 100 || codes[-1] < 100 {
		t.Error(codes)
	}
}
