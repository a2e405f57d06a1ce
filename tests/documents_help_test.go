package tests

import (
	"fmt"
	"math/rand"
	"slices"
	"strings"
	"testing"

	"loop.example/g00037/impl"
)

func edit(at int, del int, ins string) impl.TextEdit {
	return impl.TextEdit{At: at, Del: del, Ins: ins}
}

// editedBy makes the new text byte by byte.
func editedBy(text string, e impl.TextEdit) (string, int) {
	if len(text) > impl.MaxText || e.At < 0 || e.At > len(text) || e.Del < 0 || e.Del > len(text)-e.At {
		return "", impl.ErrBad
	}
	var out []byte
	for i := 0; i <= len(text); i++ {
		if i == e.At {
			out = append(out, e.Ins...)
		}
		if i < len(text) && (i < e.At || i >= e.At+e.Del) {
			out = append(out, text[i])
		}
	}
	if len(out) > impl.MaxText {
		return "", impl.ErrFull
	}
	return string(out), impl.OK
}

// undoing takes back an edit of text.
func undoing(text string, e impl.TextEdit) impl.TextEdit {
	return edit(e.At, len(e.Ins), text[e.At:e.At+e.Del])
}

// lexer is Lex of some rules.
type lexer func(text string) ([]impl.Word, int, int)

func lexerOf(rules []impl.Rule) lexer {
	return func(text string) ([]impl.Word, int, int) { return impl.Lex(rules, text) }
}

// remembering reads each text once.
func (l lexer) remembering() lexer {
	type read struct {
		words    []impl.Word
		code, at int
	}
	met := map[string]read{}
	return func(text string) ([]impl.Word, int, int) {
		if _, known := met[text]; !known {
			words, code, at := l(text)
			met[text] = read{words, code, at}
		}
		return met[text].words, met[text].code, met[text].at
	}
}

// relexed is what the document says of Relex, by Lex and the words as they stand.
func relexed(lex lexer, text string, e impl.TextEdit) ([]impl.Word, impl.Kept, int, int) {
	old, code, at := lex(text)
	if code != impl.OK {
		return nil, impl.Kept{}, code, at
	}
	changed, code := editedBy(text, e)
	if code != impl.OK {
		return nil, impl.Kept{}, code, 0
	}
	words, code, at := lex(changed)
	if code != impl.OK {
		return nil, impl.Kept{}, code, at
	}
	front := 0
	for front < len(old) && old[front].Reach <= e.At {
		front++
	}
	most := 0
	for back := range min(len(old), len(words)) - front + 1 {
		if stays(old[len(old)-back:], words[len(words)-back:], e) {
			most = back
		}
	}
	return words, impl.Kept{Front: front, Back: most}, impl.OK, 0
}

// stays tells whether all of the old words stand behind the edit, and are the new ones, moved.
func stays(old []impl.Word, words []impl.Word, e impl.TextEdit) bool {
	for i, w := range old {
		n := words[i]
		by := len(e.Ins) - e.Del
		if w.At < e.At+e.Del || n.Name != w.Name || n.Text != w.Text || n.Skip != w.Skip || n.Modes != w.Modes || n.At != w.At+by || n.Reach != w.Reach+by {
			return false
		}
	}
	return true
}

// checkRelex compares with the model, and is what it answered.
func checkRelex(t *testing.T, rules []impl.Rule, text string, e impl.TextEdit) ([]impl.Word, impl.Kept, int) {
	t.Helper()
	return checkRelexBy(t, lexerOf(rules), rules, text, e)
}

// checkRelexBy is told Lex of the rules.
func checkRelexBy(t *testing.T, lex lexer, rules []impl.Rule, text string, e impl.TextEdit) ([]impl.Word, impl.Kept, int) {
	t.Helper()
	words, kept, code, at := impl.Relex(rules, text, e)
	wantWords, want, wantCode, wantAt := relexed(lex, text, e)
	if !slices.Equal(words, wantWords) || kept != want || code != wantCode || at != wantAt {
		t.Fatalf("Relex(%v, %q, %v) is %v, %v, %d, %d and should be %v, %v, %d, %d", rules, text, e, words, kept, code, at, wantWords, want, wantCode, wantAt)
	}
	return words, kept, code
}

// wantKept asks for the numbers that are written down.
func wantKept(t *testing.T, rules []impl.Rule, text string, e impl.TextEdit, words int, front int, back int) {
	t.Helper()
	list, kept, code := checkRelex(t, rules, text, e)
	if code != impl.OK || len(list) != words || kept != (impl.Kept{Front: front, Back: back}) {
		t.Errorf("Relex of %q, %v: %v, %v, %d and should be %d words, %d in front and %d at the back", text, e, list, kept, code, words, front, back)
	}
}

func noRelex(t *testing.T, rules []impl.Rule, text string, e impl.TextEdit, code int, at int) {
	t.Helper()
	words, kept, gotCode, gotAt := impl.Relex(rules, text, e)
	if len(words) != 0 || kept != (impl.Kept{}) || gotCode != code || gotAt != at {
		t.Errorf("Relex of %d bytes, edit at %d of %d by %d: %d words, %v, %d, %d and should be %d, %d", len(text), e.At, e.Del, len(e.Ins), len(words), kept, gotCode, gotAt, code, at)
	}
}

// sharedBy numbers trees by their texts, which no two trees have alike.
func sharedBy(trees []impl.Tree) impl.Dag {
	var d impl.Dag
	numbers := map[string]int{}
	var number func(t impl.Tree) int
	number = func(t impl.Tree) int {
		n := impl.DagNode{Name: t.Name, Text: t.Text, Leaf: t.Leaf}
		for _, kid := range t.Kids {
			n.Kids = append(n.Kids, number(kid))
		}
		text := written(t)
		if _, met := numbers[text]; !met {
			numbers[text] = len(d.Nodes)
			d.Nodes = append(d.Nodes, n)
		}
		return numbers[text]
	}
	for _, t := range trees {
		d.Roots = append(d.Roots, number(t))
	}
	return d
}

// dagText is the same for two that are the same.
func dagText(d impl.Dag) string {
	var s strings.Builder
	for _, n := range d.Nodes {
		fmt.Fprintf(&s, "%q %q %v %d;", n.Name, n.Text, n.Leaf, n.Kids)
	}
	fmt.Fprint(&s, d.Roots)
	return s.String()
}

func copyDag(d impl.Dag) impl.Dag {
	c := impl.Dag{Roots: slices.Clone(d.Roots)}
	for _, n := range d.Nodes {
		n.Kids = slices.Clone(n.Kids)
		c.Nodes = append(c.Nodes, n)
	}
	return c
}

func sameTrees(a []impl.Tree, b []impl.Tree) bool { return slices.EqualFunc(a, b, sameTree) }

// checkShare asks for the Dag that the model makes, and for the trees again; it is the Dag.
func checkShare(t *testing.T, trees ...impl.Tree) impl.Dag {
	t.Helper()
	d, code := impl.Share(trees)
	if want := sharedBy(trees); dagText(d) != dagText(want) || code != impl.OK {
		t.Fatalf("Share is %s, %d and should be %s", dagText(d), code, dagText(want))
	}
	wantUnshared(t, d, trees)
	return d
}

func wantUnshared(t *testing.T, d impl.Dag, trees []impl.Tree) {
	t.Helper()
	if again, code := impl.Unshare(d); !sameTrees(again, trees) || code != impl.OK {
		t.Fatalf("Unshare of %s answers %d trees and code %d", dagText(d), len(again), code)
	}
}

func noTrees(t *testing.T, why string, d impl.Dag) {
	t.Helper()
	if trees, code := impl.Unshare(d); len(trees) != 0 || code != impl.ErrForm {
		t.Errorf("%s: Unshare answers %d trees and code %d", why, len(trees), code)
	}
}

// alikeTree has so few names and texts that many trees in it are alike.
func alikeTree(r *rand.Rand, depth int) impl.Tree {
	if depth == 1 || r.Intn(4) == 0 {
		return oneOf(r, leaf("a", ""), leaf("a", "x"), leaf("b", ""), node("a"))
	}
	t := node(oneOf(r, "a", "a", "b"))
	for n := r.Intn(4); n > 0; n-- {
		t.Kids = append(t.Kids, alikeTree(r, depth-1))
	}
	return t
}

func alikeTrees(r *rand.Rand) []impl.Tree {
	var trees []impl.Tree
	for n := r.Intn(5); n > 0; n-- {
		trees = append(trees, alikeTree(r, 1+r.Intn(5)))
	}
	if len(trees) > 0 && r.Intn(2) == 0 {
		all := oneOf(r, trees...)
		trees = append(trees, copyTree(under(all, oneOf(r, pathsOf(all)...))))
	}
	return trees
}
