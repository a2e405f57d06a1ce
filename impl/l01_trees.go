package impl

import "slices"

const MaxName = 24
const MaxLeaf = 200
const MaxNodes = 1000
const MaxDepth = 60
const MaxShow = 20000

const OK = 0
const ErrBad = 1
const ErrText = 2
const ErrFull = 3
const ErrPlace = 4

// The bytes that a text may have as they are; a leaf's shown text has the others by their numbers.
const firstPlain = 32
const lastPlain = 126
const lastByte = 255

// What TreeHash begins with, and multiplies by.
const hashSeed = 5381
const hashFactor = 33

// Tree is a leaf or a node.
type Tree struct {
	Name string
	Text string
	Leaf bool
	Kids []Tree
}

// TreeOK tells whether a tree is right.
func TreeOK(t Tree) bool {
	_, _, code := TreeSize(t)
	return code == OK
}

// TreeSize is how many trees are in a tree, and how deep it is.
func TreeSize(t Tree) (nodes int, depth int, code int) {
	defer func() {
		if caught := recover(); caught != nil {
			nodes, depth, code = 0, 0, faultIn(caught).code
		}
	}()
	walk := treeWalk{}
	walk.through(t, 1)
	return walk.nodes, walk.depth, OK
}

// TreeShow is a tree's text.
func TreeShow(t Tree) (string, int) {
	if !TreeOK(t) {
		return "", ErrBad
	}
	shown := inward(t).show(nil)
	if len(shown) > MaxShow {
		return "", ErrFull
	}
	return string(shown), OK
}

// TreeRead reads a tree.
func TreeRead(s string) (tree Tree, code int, at int) {
	defer func() {
		if caught := recover(); caught != nil {
			fault := faultIn(caught)
			tree, code, at = Tree{}, fault.code, fault.at
		}
	}()
	if len(s) > MaxShow {
		return Tree{}, ErrBad, 0
	}
	scan := treeScanner{textScanner{text: s}}
	read := outward(scan.whole())
	if !TreeOK(read) {
		return Tree{}, ErrFull, 0
	}
	return read, OK, 0
}

// TreeYield is the texts of a tree's leaves.
func TreeYield(t Tree) (string, int) {
	if !TreeOK(t) {
		return "", ErrBad
	}
	return string(inward(t).yield(nil)), OK
}

// TreeAt is the tree at a place.
func TreeAt(t Tree, path []int) (Tree, int) {
	if !TreeOK(t) {
		return Tree{}, ErrBad
	}
	form := inward(t)
	for _, place := range path {
		kid, found := form.kid(place)
		if !found {
			return Tree{}, ErrPlace
		}
		form = kid
	}
	return outward(form), OK
}

// TreePut puts a tree at a place.
func TreePut(t Tree, path []int, u Tree) (Tree, int) {
	if !TreeOK(t) || !TreeOK(u) {
		return Tree{}, ErrBad
	}
	form, found := inward(t).put(path, inward(u))
	if !found {
		return Tree{}, ErrPlace
	}
	changed := outward(form)
	if !TreeOK(changed) {
		return Tree{}, ErrFull
	}
	return changed, OK
}

// TreeHash is a number of a tree.
func TreeHash(t Tree) (int, int) {
	if !TreeOK(t) {
		return 0, ErrBad
	}
	// 32 bits wrap round at just the modulus that is asked for.
	hash := uint32(hashSeed)
	for _, b := range inward(t).show(nil) {
		hash = hash*hashFactor + uint32(b)
	}
	return int(hash), OK
}

// innerFault is what a walk or a scanner panics with, and what the face that recovers answers.
type innerFault struct {
	code int
	at   int
}

// faultIn lets a panic that is no innerFault go on: that one is a mistake of the program, and no answer.
func faultIn(caught any) innerFault {
	if fault, ok := caught.(innerFault); ok {
		return fault
	}
	panic(caught)
}

// treeWalk counts while it goes, so that a tree that leads back into itself ends the walk too.
type treeWalk struct {
	nodes int
	depth int
}

func (w *treeWalk) through(t Tree, depth int) {
	w.nodes++
	w.depth = max(w.depth, depth)
	if w.nodes > MaxNodes || depth > MaxDepth || !rightAlone(t) {
		panic(innerFault{code: ErrBad})
	}
	for _, kid := range t.Kids {
		w.through(kid, depth+1)
	}
}

// rightAlone looks at the tree itself and leaves its Kids to the walk.
func rightAlone(t Tree) bool {
	if !isName(t.Name) {
		return false
	}
	if t.Leaf {
		return len(t.Kids) == 0 && len(t.Text) <= MaxLeaf
	}
	return t.Text == ""
}

func isName(s string) bool {
	if len(s) < 1 || len(s) > MaxName || !isLetter(s[0]) {
		return false
	}
	for i := 1; i < len(s); i++ {
		if !isNameSign(s[i]) {
			return false
		}
	}
	return true
}

// sign is one of a text that is gone through by bytes, or by runes.
type sign interface{ byte | rune }

func isNameSign[S sign](s S) bool { return isLetter(s) || isDigit(s) || s == '_' }

func isLetter[S sign](s S) bool { return 'a' <= s && s <= 'z' || 'A' <= s && s <= 'Z' }

func isDigit[S sign](s S) bool { return '0' <= s && s <= '9' }

// treeForm is a tree as the faces work on it: a treeLeaf or a treeNode.
type treeForm interface {
	show(out []byte) []byte
	yield(out []byte) []byte
	kid(place int) (treeForm, bool)
	put(path []int, form treeForm) (treeForm, bool)
}

type treeLeaf struct {
	name string
	text string
}

type treeNode struct {
	name string
	kids []treeForm
}

// inward expects a tree that has an end.
func inward(t Tree) treeForm {
	if t.Leaf {
		return treeLeaf{name: t.Name, text: t.Text}
	}
	kids := make([]treeForm, 0, len(t.Kids))
	for _, kid := range t.Kids {
		kids = append(kids, inward(kid))
	}
	return treeNode{name: t.Name, kids: kids}
}

// outward makes each list of Kids anew: what a face answers shares none with what it was given.
func outward(form treeForm) Tree {
	switch f := form.(type) {
	case treeLeaf:
		return Tree{Name: f.name, Text: f.text, Leaf: true}
	case treeNode:
		t := Tree{Name: f.name}
		for _, kid := range f.kids {
			t.Kids = append(t.Kids, outward(kid))
		}
		return t
	}
	return Tree{}
}

func (l treeLeaf) show(out []byte) []byte {
	out = append(out, l.name...)
	out = append(out, '"')
	for i := 0; i < len(l.text); i++ {
		out = showByte(out, l.text[i])
	}
	return append(out, '"')
}

func (n treeNode) show(out []byte) []byte {
	out = append(out, '(')
	out = append(out, n.name...)
	for _, kid := range n.kids {
		out = kid.show(append(out, ' '))
	}
	return append(out, ')')
}

func showByte(out []byte, b byte) []byte {
	if b == '"' || b == '\\' {
		return append(out, '\\', b)
	}
	if b < firstPlain || b > lastPlain {
		return append(out, '\\', '0'+b/100, '0'+b/10%10, '0'+b%10)
	}
	return append(out, b)
}

func (l treeLeaf) yield(out []byte) []byte { return append(out, l.text...) }

func (n treeNode) yield(out []byte) []byte {
	for _, kid := range n.kids {
		out = kid.yield(out)
	}
	return out
}

func (l treeLeaf) kid(place int) (treeForm, bool) { return nil, false }

func (n treeNode) kid(place int) (treeForm, bool) {
	if place < 0 || place >= len(n.kids) {
		return nil, false
	}
	return n.kids[place], true
}

func (l treeLeaf) put(path []int, form treeForm) (treeForm, bool) {
	return form, len(path) == 0
}

func (n treeNode) put(path []int, form treeForm) (treeForm, bool) {
	if len(path) == 0 {
		return form, true
	}
	kid, found := n.kid(path[0])
	if !found {
		return nil, false
	}
	changed, found := kid.put(path[1:], form)
	if !found {
		return nil, false
	}
	kids := slices.Clone(n.kids)
	kids[path[0]] = changed
	return treeNode{name: n.name, kids: kids}, true
}

// textScanner goes through a text; it panics at the first byte with which the text cannot go on.
type textScanner struct {
	text string
	at   int
}

func (s *textScanner) fault() innerFault { return innerFault{code: ErrText, at: s.at} }

func (s *textScanner) sees(b byte) bool { return s.at < len(s.text) && s.text[s.at] == b }

func (s *textScanner) pass(b byte) {
	if !s.sees(b) {
		panic(s.fault())
	}
	s.at++
}

// plain passes a byte that a text may have as it is.
func (s *textScanner) plain() byte {
	if s.at == len(s.text) || s.text[s.at] < firstPlain || s.text[s.at] > lastPlain {
		panic(s.fault())
	}
	s.at++
	return s.text[s.at-1]
}

// treeScanner reads a tree's text.
type treeScanner struct {
	textScanner
}

func (s *treeScanner) seesDigit() bool { return s.at < len(s.text) && isDigit(s.text[s.at]) }

// blanks tells whether there were any, for the places where one at least must stand.
func (s *treeScanner) blanks() bool {
	from := s.at
	for s.sees(' ') || s.sees('\n') {
		s.at++
	}
	return s.at > from
}

func (s *treeScanner) whole() treeForm {
	s.blanks()
	form := s.tree()
	s.blanks()
	if s.at < len(s.text) {
		panic(s.fault())
	}
	return form
}

func (s *treeScanner) tree() treeForm {
	if s.sees('(') {
		return s.node()
	}
	return s.leaf()
}

func (s *treeScanner) node() treeForm {
	s.pass('(')
	s.blanks()
	name := s.name()
	kids := listOf(s.kid)
	s.pass(')')
	return treeNode{name: name, kids: kids}
}

// listOf reads as long as next finds one more; next is told whether it would be the first.
func listOf(next func(first bool) (treeForm, bool)) []treeForm {
	var list []treeForm
	for {
		form, more := next(len(list) == 0)
		if !more {
			return list
		}
		list = append(list, form)
	}
}

// kid wants a blank ahead of each Kid but a node that stands right behind the Name.
func (s *treeScanner) kid(first bool) (treeForm, bool) {
	parted := s.blanks()
	if s.sees(')') {
		return nil, false
	}
	if !parted && !(first && s.sees('(')) {
		panic(s.fault())
	}
	return s.tree(), true
}

// name stops ahead of the byte that would be one too many: none of those that may stand behind a name goes on with it, so the fault is there.
func (s *treeScanner) name() string {
	from := s.at
	if s.at == len(s.text) || !isLetter(s.text[s.at]) {
		panic(s.fault())
	}
	for s.at < len(s.text) && s.at-from < MaxName && isNameSign(s.text[s.at]) {
		s.at++
	}
	return s.text[from:s.at]
}

func (s *treeScanner) leaf() treeForm {
	name := s.name()
	s.pass('"')
	var text []byte
	for !s.sees('"') {
		text = append(text, s.shownByte())
	}
	s.pass('"')
	return treeLeaf{name: name, text: string(text)}
}

// shownByte is the byte of which showByte wrote what stands here.
func (s *treeScanner) shownByte() byte {
	if s.sees('\\') {
		s.at++
		return s.escaped()
	}
	return s.plain()
}

func (s *treeScanner) escaped() byte {
	if s.sees('"') || s.sees('\\') {
		s.at++
		return s.text[s.at-1]
	}
	return s.numbered()
}

// numbered refuses the first digit with which no byte that is shown by its number begins.
func (s *treeScanner) numbered() byte {
	number := 0
	for _, weight := range [3]int{100, 10, 1} {
		if !s.seesDigit() {
			panic(s.fault())
		}
		number += weight * int(s.text[s.at]-'0')
		if !someNumbered(number, number+weight-1) {
			panic(s.fault())
		}
		s.at++
	}
	return byte(number)
}

// someNumbered tells whether from .. to has a byte that is shown by its number.
func someNumbered(from int, to int) bool {
	return from < firstPlain || to > lastPlain && from <= lastByte
}
