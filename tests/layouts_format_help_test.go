package tests

import (
	"math/rand"
	"slices"
	"strings"
	"testing"

	"loop.example/g00037/impl"
)

// noteRules have words, blanks, notes up to the end of a line, and notes between two #.
func noteRules() []impl.Rule {
	return []impl.Rule{
		{Name: "Id", Rx: "[a-z]+", In: "main"},
		{Name: "Num", Rx: "[0-9]+", In: "main"},
		{Name: "Sign", Rx: "[\\-+*/();=]", In: "main"},
		{Name: "Ws", Rx: "[ \\n]+", In: "main", Skip: true},
		{Name: "Note", Rx: "%[^\\n]*", In: "main", Skip: true},
		{Name: "Rem", Rx: "#[^#]*#", In: "main", Skip: true},
	}
}

func skips(rules []impl.Rule, name string) bool {
	return slices.ContainsFunc(rules, func(rule impl.Rule) bool { return rule.Name == name && rule.Skip })
}

// trimmedBy takes blanks and line feeds off, byte by byte.
func trimmedBy(text string) string {
	for text != "" && (text[0] == ' ' || text[0] == '\n') {
		text = text[1:]
	}
	for text != "" && (text[len(text)-1] == ' ' || text[len(text)-1] == '\n') {
		text = text[:len(text)-1]
	}
	return text
}

// bareOf is a tree without all that gives nothing: its notes are trimmed, and what is alone in a node stands in its place.
func bareOf(rules []impl.Rule, x impl.Tree) (impl.Tree, bool) {
	if x.Leaf {
		if skips(rules, x.Name) {
			x.Text = trimmedBy(x.Text)
			return x, x.Text != ""
		}
		return x, true
	}
	var kids []impl.Tree
	for _, kid := range x.Kids {
		if bare, gives := bareOf(rules, kid); gives {
			kids = append(kids, bare)
		}
	}
	if len(kids) == 1 {
		return kids[0], true
	}
	return node(x.Name, kids...), len(kids) > 0
}

// layOfBare is the layout of a tree of which bareOf left all.
func layOfBare(rules []impl.Rule, x impl.Tree) []lay {
	if x.Leaf {
		word := []lay{{LNode: lText(x.Text)}}
		if skips(rules, x.Name) {
			word = append(word, lay{LNode: lHard()})
		}
		return word
	}
	var all []lay
	for i, kid := range x.Kids {
		all = append(all, layOfBare(rules, kid)...)
		if i < len(x.Kids)-1 && !(kid.Leaf && skips(rules, kid.Name)) {
			all = append(all, lay{LNode: lLine()})
		}
	}
	cat := lay{LNode: lCat(), within: all}
	return []lay{{LNode: lGroup(), within: []lay{{LNode: lNest(2), within: []lay{cat}}}}}
}

// tidyBy goes from the end: blanks count as soon as something stands behind them on their line.
func tidyBy(text string) string {
	var out []byte
	for i := len(text) - 1; i >= 0; i-- {
		ends := len(out) == 0 || out[len(out)-1] == '\n'
		if text[i] == ' ' && ends || text[i] == '\n' && len(out) == 0 {
			continue
		}
		out = append(out, text[i])
	}
	slices.Reverse(out)
	return string(out) + "\n"
}

// formatBy is for right inputs.
func formatBy(rules []impl.Rule, x impl.Tree, width int) (string, int) {
	bare, gives := bareOf(rules, x)
	if !gives {
		return "", impl.OK
	}
	for _, path := range pathsOf(bare) {
		if strings.Contains(under(bare, path).Text, "\n") {
			return "", impl.ErrForm
		}
	}
	all := layOfBare(rules, bare)
	whole := all[0]
	if len(all) > 1 {
		whole = lay{LNode: lCat(), within: all}
	}
	d := whole.nodes()
	if len(d) > impl.MaxLay || groupCount(d) > impl.MaxGroups {
		return "", impl.ErrFull
	}
	text, _ := bestBy(d, width)
	return tidyBy(text), impl.OK
}

func checkFormat(t *testing.T, rules []impl.Rule, x impl.Tree, width int) (string, int) {
	t.Helper()
	text, code := impl.Format(rules, x, width)
	if want, wantCode := formatBy(rules, x, width); text != want || code != wantCode {
		t.Fatalf("Format of %s to %d: %q, %d and should be %q, %d", written(x), width, text, code, want, wantCode)
	}
	return text, code
}

func wantFormat(t *testing.T, why string, x impl.Tree, width int, want string) {
	t.Helper()
	if text, code := checkFormat(t, noteRules(), x, width); text != want || code != impl.OK {
		t.Errorf("%s: %s to %d: %q, %d and should be %q", why, written(x), width, text, code, want)
	}
}

func noFormat(t *testing.T, why string, rules []impl.Rule, x impl.Tree, width int, want int) {
	t.Helper()
	if text, code := impl.Format(rules, x, width); text != "" || code != want {
		t.Errorf("%s: %q, %d and should be %d", why, text, code, want)
	}
}

// named is a word or a note.
type named struct{ name, text string }

// wordsAndNotes are those of a tree, in order, notes trimmed.
func wordsAndNotes(rules []impl.Rule, x impl.Tree) []named {
	var list []named
	for _, path := range pathsOf(x) {
		if one := under(x, path); one.Leaf {
			if bare, gives := bareOf(rules, one); gives {
				list = append(list, named{bare.Name, bare.Text})
			}
		}
	}
	return list
}

// wordsAndNotesOf are those of a text.
func wordsAndNotesOf(t *testing.T, rules []impl.Rule, text string) []named {
	t.Helper()
	words, code, at := impl.Lex(rules, text)
	if code != impl.OK {
		t.Fatalf("%q has no words: %d at %d", text, code, at)
	}
	all := node("All")
	for _, word := range words {
		all.Kids = append(all.Kids, leaf(word.Name, word.Text))
	}
	return wordsAndNotes(rules, all)
}

// someBetween is what may stand between two words.
func someBetween(r *rand.Rand) impl.Tree {
	return oneOf(r,
		leaf("Ws", " "), leaf("Ws", "\n"), leaf("Ws", " \n\n  "), leaf("Ws", ""),
		leaf("Note", "%"), leaf("Note", "% so"), leaf("Note", "% two words  "), leaf("Note", "%%"),
		leaf("Rem", "# a #"), leaf("Rem", "##"))
}

// someFormed is a tree of words, with blanks and notes anywhere.
func someFormed(r *rand.Rand, depth int) impl.Tree {
	if depth == 0 || r.Intn(4) == 0 {
		if r.Intn(3) == 0 {
			return someBetween(r)
		}
		return oneOf(r, leaf("Id", "a"), leaf("Id", "bcd"), leaf("Id", "longer"), leaf("Num", "12"), leaf("Sign", "+"), leaf("Sign", "("))
	}
	t := node(oneOf(r, "A", "B", "C"))
	for n := r.Intn(5); n > 0; n-- {
		t.Kids = append(t.Kids, someFormed(r, depth-1))
	}
	return t
}
