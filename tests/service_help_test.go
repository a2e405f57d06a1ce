package tests

import (
	"fmt"
	"math/rand"
	"slices"
	"strings"
	"testing"

	"loop.example/g00037/impl"
)

// small is the language of most written cases; its start has no node of its own around a sum.
const small = `language small; token Num ~[0-9]+~; skip Ws ~[ \n]+~; skip Note ~%.*~; left '+';
E = E '+' E # Add | '(' E ')' | Num # N;`

// anyBytes has a word for each byte: each text of at most MaxParse bytes is read, and its tree tells it.
const anyBytes = `language bytes; token One ~.|\n~; All = {One};`

// moveBy is what the document says of MoveEdit, sentence by sentence.
func moveBy(e impl.TextEdit, by impl.TextEdit) impl.TextEdit {
	b, end, l := by.At, by.At+by.Del, len(by.Ins)
	from, to := e.At, e.At+e.Del
	var newFrom, newTo int
	if from < b {
		newFrom = from
	} else if from >= b && from <= end {
		newFrom = b + l
	} else if from > end {
		newFrom = from + l - by.Del
	}
	if to <= b {
		newTo = to
	} else if to < end {
		newTo = b
	} else {
		newTo = to + l - by.Del
	}
	if newTo < newFrom {
		newTo = newFrom
	}
	return edit(newFrom, newTo-newFrom, e.Ins)
}

// placeIn is where a text has the word that is a terminal's, by the terminal's number.
func placeIn(text string, words []impl.Word, term int) int {
	at := 0
	for _, w := range words {
		if !w.Skip {
			if term == 0 {
				return at
			}
			term--
		}
		at += len(w.Text)
	}
	return len(text)
}

// reading is what the document says of Reading, of a language that is one.
func (l tongue) reading(text string) (impl.Tree, int, int) {
	words, code, at := impl.Lex(l.rules, text)
	if code != impl.OK {
		return impl.Tree{}, code, at
	}
	terms, _, code := impl.Terminals(l.b, words)
	if code != impl.OK {
		return impl.Tree{}, code, 0
	}
	d, code, at := impl.Parse(l.b, l.table, terms)
	if code == impl.ErrBad {
		return impl.Tree{}, code, 0
	}
	if code != impl.OK {
		return impl.Tree{}, code, placeIn(text, words, at)
	}
	x, code := impl.TreeOf(l.b, d, words)
	return x, code, 0
}

// complete is what the document says of Complete, of a language that is one.
func (l tongue) complete(text string) ([]string, int, int) {
	words, code, at := impl.Lex(l.rules, text)
	if code != impl.OK {
		return nil, code, at
	}
	terms, _, code := impl.Terminals(l.b, words)
	if code != impl.OK {
		return nil, code, 0
	}
	next, code, at := impl.Expected(l.b, l.table, terms)
	if code == impl.ErrBad {
		return nil, code, 0
	}
	if code != impl.OK {
		return nil, code, placeIn(text, words, at)
	}
	var names []string
	for i, term := range l.b.Terms {
		if slices.Contains(next, i) {
			names = append(names, term.Name)
		}
	}
	if slices.Contains(next, len(l.b.Terms)) {
		names = append(names, ".")
	}
	return names, impl.OK, 0
}

// checkReading compares with the model, and is what it answered.
func checkReading(t *testing.T, l tongue, text string) (impl.Tree, int, int) {
	t.Helper()
	x, code, at := impl.Reading(l.source, text)
	want, wantCode, wantAt := l.reading(text)
	if !sameTree(x, want) || code != wantCode || at != wantAt {
		t.Fatalf("%s: Reading of %q is %s, %d, %d and should be %s, %d, %d", l.name, text, written(x), code, at, written(want), wantCode, wantAt)
	}
	return x, code, at
}

func checkComplete(t *testing.T, l tongue, text string) ([]string, int, int) {
	t.Helper()
	names, code, at := impl.Complete(l.source, text)
	want, wantCode, wantAt := l.complete(text)
	if !slices.Equal(names, want) || code != wantCode || at != wantAt {
		t.Fatalf("%s: Complete of %q is %q, %d, %d and should be %q, %d, %d", l.name, text, names, code, at, want, wantCode, wantAt)
	}
	return names, code, at
}

// paper is a document as the model keeps it: the texts of all versions, and the edits between them.
type paper struct {
	texts []string
	edits []impl.TextEdit
}

func (p *paper) version() int { return len(p.texts) }

func (p *paper) text() string { return p.texts[len(p.texts)-1] }

// change tells the code of the edit, and does it where that is OK.
func (p *paper) change(e impl.TextEdit) int {
	text, code := editedBy(p.text(), e)
	if code == impl.OK {
		p.texts = append(p.texts, text)
		p.edits = append(p.edits, e)
	}
	return code
}

// desk is what the document says of Serve, message by message.
type desk struct {
	tongue
	papers map[string]*paper
}

func newDesk(l tongue) *desk { return &desk{tongue: l, papers: map[string]*paper{}} }

func isNameBy(s string) bool {
	if s == "" || len(s) > impl.MaxName || strings.Trim(s, "abcdefghijklmnopqrstuvwxyzABCDEFGHIJKLMNOPQRSTUVWXYZ0123456789_") != "" {
		return false
	}
	return !strings.Contains("0123456789_", s[:1])
}

// take is the reply to the next message.
func (d *desk) take(m impl.Msg) impl.Reply {
	code, at, text := impl.ErrBad, 0, ""
	if m.Kind >= 1 && m.Kind <= 9 && isNameBy(m.Doc) {
		code, at, text = d.done(m)
	}
	reply := impl.Reply{Code: code, At: at, Text: text}
	if p := d.papers[m.Doc]; p != nil {
		reply.Version = p.version()
	}
	return reply
}

func (d *desk) done(m impl.Msg) (int, int, string) {
	p := d.papers[m.Doc]
	if m.Kind == impl.MsOpen {
		return d.open(m), 0, ""
	}
	if p == nil {
		return impl.ErrNone, 0, ""
	}
	if m.Kind == impl.MsClose {
		delete(d.papers, m.Doc)
		return impl.OK, 0, ""
	}
	if m.Kind == impl.MsEdit {
		code, at := p.edit(m)
		return code, at, ""
	}
	if m.Version != p.version() {
		return impl.ErrOld, 0, ""
	}
	if m.Kind == impl.MsUndo {
		code, at := p.undo()
		return code, at, ""
	}
	return d.told(p, m)
}

func (d *desk) open(m impl.Msg) int {
	if d.papers[m.Doc] != nil {
		return impl.ErrTwice
	}
	if len(d.papers) >= impl.MaxDocs || len(m.Text) > impl.MaxText {
		return impl.ErrFull
	}
	d.papers[m.Doc] = &paper{texts: []string{m.Text}}
	return impl.OK
}

func (p *paper) edit(m impl.Msg) (int, int) {
	if m.Version < 1 || m.Version > p.version() {
		return impl.ErrPlace, 0
	}
	if m.Version < p.version()-impl.MaxPast {
		return impl.ErrOld, 0
	}
	e := edit(m.At, m.Del, m.Text)
	if _, code := editedBy(p.texts[m.Version-1], e); code == impl.ErrBad {
		return code, 0
	}
	for _, by := range p.edits[m.Version-1:] {
		e = moveBy(e, by)
	}
	if code := p.change(e); code != impl.OK {
		return code, 0
	}
	return impl.OK, e.At
}

func (p *paper) undo() (int, int) {
	if p.version() == 1 {
		return impl.ErrPlace, 0
	}
	back := undoing(p.texts[len(p.texts)-2], p.edits[len(p.edits)-1])
	return p.change(back), back.At
}

// told is the code, At and Text of a question.
func (d *desk) told(p *paper, m impl.Msg) (int, int, string) {
	text := p.text()
	switch m.Kind {
	case impl.MsNext:
		if m.At < 0 || m.At > len(text) {
			return impl.ErrPlace, 0, ""
		}
		names, code, at := d.complete(text[:m.At])
		return code, at, strings.Join(names, " ")
	case impl.MsFix:
		return d.fixed(text)
	}
	if m.Kind == impl.MsPick && (m.At < 0 || m.At >= len(text)) {
		return impl.ErrPlace, 0, ""
	}
	x, code, at := d.reading(text)
	if code != impl.OK {
		return code, at, ""
	}
	switch m.Kind {
	case impl.MsTree:
		shown, code := impl.TreeShow(x)
		return code, 0, shown
	case impl.MsPick:
		path, at := smallestWith(x, m.At)
		return impl.OK, at, path
	}
	anew, code := impl.Format(d.rules, x, m.At)
	if code == impl.OK && len(anew) > impl.MaxText {
		code = impl.ErrFull
	}
	if code != impl.OK {
		return code, 0, ""
	}
	if anew != text {
		p.change(edit(0, len(text), anew))
	}
	return impl.OK, 0, anew
}

func (d *desk) fixed(text string) (int, int, string) {
	words, code, at := impl.Lex(d.rules, text)
	if code != impl.OK {
		return code, at, ""
	}
	terms, _, code := impl.Terminals(d.b, words)
	if code != impl.OK {
		return code, 0, ""
	}
	fix, code := impl.Repair(d.b, terms, onePrice(d.b, 1))
	var names []string
	for _, term := range fix.Word {
		names = append(names, d.b.Terms[term].Name)
	}
	return code, fix.Cost, strings.Join(names, " ")
}

// smallestWith goes through all trees in x, and is the path of the one with the fewest trees in it whose Yield has the byte, and where that begins.
func smallestWith(x impl.Tree, at int) (string, int) {
	path, begin, least := "", 0, impl.MaxNodes+1
	for _, p := range pathsOf(x) {
		ahead := len(yieldAhead(x, p))
		part := under(x, p)
		yield, _ := impl.TreeYield(part)
		if size, _, _ := impl.TreeSize(part); ahead <= at && at < ahead+len(yield) && size < least {
			path, begin, least = strings.Trim(strings.ReplaceAll(fmt.Sprint(p), " ", "/"), "[]"), ahead, size
		}
	}
	return path, begin
}

// yieldAhead is what the leaves give that stand ahead of the tree at a path.
func yieldAhead(x impl.Tree, path []int) string {
	ahead := ""
	for _, place := range path {
		yield, _ := impl.TreeYield(node("x", x.Kids[:place]...))
		ahead += yield
		x = x.Kids[place]
	}
	return ahead
}

// said is a message, and the reply to it.
type said struct {
	msg   impl.Msg
	reply impl.Reply
}

func opened(doc string, text string) said {
	return said{impl.Msg{Kind: impl.MsOpen, Doc: doc, Text: text}, impl.Reply{Version: 1}}
}

func closed(doc string) said { return said{msg: impl.Msg{Kind: impl.MsClose, Doc: doc}} }

// didEdit is an edit that is right; the reply has the version behind it, and where it was done.
func didEdit(doc string, version int, e impl.TextEdit, replyVersion int, replyAt int) said {
	return said{editOf(doc, version, e), impl.Reply{Version: replyVersion, At: replyAt}}
}

func editOf(doc string, version int, e impl.TextEdit) impl.Msg {
	return impl.Msg{Kind: impl.MsEdit, Doc: doc, Version: version, At: e.At, Del: e.Del, Text: e.Ins}
}

func undone(doc string, version int, at int) said {
	return said{impl.Msg{Kind: impl.MsUndo, Doc: doc, Version: version}, impl.Reply{Version: version + 1, At: at}}
}

// asked leaves the version as it is.
func asked(kind int, doc string, version int, at int, replyAt int, text string) said {
	return said{impl.Msg{Kind: kind, Doc: doc, Version: version, At: at}, impl.Reply{Version: version, At: replyAt, Text: text}}
}

// setAnew makes one version more.
func setAnew(doc string, version int, width int, text string) said {
	return said{impl.Msg{Kind: impl.MsFormat, Doc: doc, Version: version, At: width}, impl.Reply{Version: version + 1, Text: text}}
}

// noReply tells a code; version is the document's.
func noReply(m impl.Msg, code int, version int, at int) said {
	return said{m, impl.Reply{Code: code, Version: version, At: at}}
}

func msgOf(kind int, doc string, version int, at int) impl.Msg {
	return impl.Msg{Kind: kind, Doc: doc, Version: version, At: at}
}

// wantServed asks for the replies that are written down, and for those of the model.
func wantServed(t *testing.T, why string, source string, list ...said) {
	t.Helper()
	d := newDesk(tongueOf(t, source, nil))
	var msgs []impl.Msg
	for _, s := range list {
		msgs = append(msgs, s.msg)
	}
	replies, code := impl.Serve(source, msgs)
	if code != impl.OK || len(replies) != len(msgs) {
		t.Fatalf("%s: %d replies, code %d", why, len(replies), code)
	}
	for i, s := range list {
		if replies[i] != s.reply {
			t.Errorf("%s: reply %d, to %s, is %s and should be %s", why, i, shownMsg(s.msg), shownReply(replies[i]), shownReply(s.reply))
		}
		if model := d.take(s.msg); model != s.reply {
			t.Errorf("%s: reply %d, to %s, is %s by the model", why, i, shownMsg(s.msg), shownReply(model))
		}
	}
}

func shownMsg(m impl.Msg) string {
	m.Text = cutShort(m.Text)
	return fmt.Sprintf("%+v", m)
}

func shownReply(r impl.Reply) string {
	r.Text = cutShort(r.Text)
	return fmt.Sprintf("%+v", r)
}

func cutShort(text string) string {
	if len(text) > 200 {
		return fmt.Sprintf("%s.. (%d bytes)", text[:200], len(text))
	}
	return text
}

// someScript is messages about the documents of these names, made while the model answers them: so most of them are right.
func someScript(r *rand.Rand, l tongue, names []string, n int) ([]impl.Msg, []impl.Reply) {
	d := newDesk(l)
	var msgs []impl.Msg
	var replies []impl.Reply
	for range n {
		m := d.someMsg(r, oneOf(r, names...))
		msgs = append(msgs, m)
		replies = append(replies, d.take(m))
	}
	return msgs, replies
}

func (d *desk) someMsg(r *rand.Rand, name string) impl.Msg {
	p := d.papers[name]
	if p == nil && r.Intn(10) > 0 || r.Intn(25) == 0 {
		return impl.Msg{Kind: impl.MsOpen, Doc: name, Text: d.someText(r, 2+r.Intn(4))}
	}
	if p == nil {
		return impl.Msg{Kind: r.Intn(12) - 1, Doc: oneOf(r, name, "", "9"), Version: 1}
	}
	m := impl.Msg{Doc: name, Version: p.version()}
	m.Kind = oneOf(r, impl.MsEdit, impl.MsEdit, impl.MsEdit, impl.MsEdit, impl.MsUndo, impl.MsUndo, impl.MsTree, impl.MsTree, impl.MsNext, impl.MsPick, impl.MsFormat, impl.MsFix)
	if r.Intn(25) == 0 {
		m.Kind = oneOf(r, impl.MsClose, 0, 10)
	}
	if m.Kind == impl.MsEdit && r.Intn(2) == 0 {
		m.Version -= r.Intn(6)
	}
	if r.Intn(12) == 0 {
		m.Version += r.Intn(5) - 2
	}
	text := p.texts[min(max(m.Version, 1), p.version())-1]
	m.At = r.Intn(len(text)+1) - r.Intn(20)/19
	if m.Kind == impl.MsFormat {
		m.At = oneOf(r, 0, 5, 10, 80, 80, 1000, 1001)
	}
	if m.Kind == impl.MsEdit {
		m.Del = r.Intn(min(4, len(text)-max(m.At, 0)) + 1 + r.Intn(20)/19)
		m.Text = d.someIns(r)
	}
	return m
}

// someIns is a word, some of what may stand between words, or nothing.
func (l tongue) someIns(r *rand.Rand) string {
	list := append([]string{"", "", " ", "\n"}, l.gaps...)
	for _, term := range l.b.Terms {
		if lit, isLit := strings.CutPrefix(term.Name, "'"); isLit {
			list = append(list, strings.TrimSuffix(lit, "'"))
		} else {
			list = append(list, l.tokens[term.Name]...)
		}
	}
	return oneOf(r, list...)
}

// wantReplies asks for the replies of the model.
func wantReplies(t *testing.T, source string, msgs []impl.Msg, want []impl.Reply) {
	t.Helper()
	replies, code := impl.Serve(source, msgs)
	if code != impl.OK || len(replies) != len(want) {
		t.Fatalf("%d replies, code %d", len(replies), code)
	}
	for i := range want {
		if replies[i] != want[i] {
			for _, m := range msgs[:i] {
				t.Log(shownMsg(m))
			}
			t.Fatalf("reply %d, to %s, is %s and should be %s", i, shownMsg(msgs[i]), shownReply(replies[i]), shownReply(want[i]))
		}
	}
}

// servedTongues are languages in which documents are edited and asked about.
func servedTongues(t *testing.T) []tongue {
	t.Helper()
	words := map[string][]string{"Num": {"0", "12", "345"}, "One": {"a", "b", "\n", "\x00", "\xff"}}
	return append(tongues(t), tongueOf(t, small, words, "", "% so\n", "?"), tongueOf(t, anyBytes, words, "", "xyz"))
}
