package tests

import (
	"fmt"
	"math/rand"
	"regexp"
	"slices"
	"strconv"
	"strings"
	"testing"

	"loop.example/g00037/impl"
)

// opWords are found by Op.
var opWords = []string{"", "push", "drop", "tell", "pass", "jump", "ifnext", "ifend", "iftop", "done", "fail"}

var allOps = []int{impl.InPush, impl.InDrop, impl.InTell, impl.InPass, impl.InJump, impl.InIfNext, impl.InIfEnd, impl.InIfTop, impl.InDone, impl.InFail}

func opHasTo(op int) bool {
	return slices.Contains([]int{impl.InJump, impl.InIfNext, impl.InIfEnd, impl.InIfTop}, op)
}

func opHasN(op int) bool {
	return slices.Contains([]int{impl.InPush, impl.InDrop, impl.InTell, impl.InIfNext, impl.InIfTop, impl.InFail}, op)
}

func opEnds(op int) bool {
	return slices.Contains([]int{impl.InJump, impl.InDone, impl.InFail}, op)
}

// coded is a program that is written in one line: "push 7; drop 0; done".
func coded(text string) []impl.Ins {
	var p []impl.Ins
	for _, line := range strings.Split(text, ";") {
		words := strings.Fields(line)
		ins := impl.Ins{Op: slices.Index(opWords, words[0])}
		words = words[1:]
		if opHasN(ins.Op) {
			ins.N, _ = strconv.Atoi(words[0])
			words = words[1:]
		}
		if opHasTo(ins.Op) {
			ins.To, _ = strconv.Atoi(words[0])
			words = words[1:]
		}
		if ins.Op < 1 || len(words) > 0 {
			panic(line)
		}
		p = append(p, ins)
	}
	return p
}

// codeText is what ProgramShow is to write, of any length.
func codeText(p []impl.Ins) string {
	var text strings.Builder
	for _, ins := range p {
		text.WriteString(opWords[ins.Op])
		if opHasN(ins.Op) {
			fmt.Fprintf(&text, " %d", ins.N)
		}
		if opHasTo(ins.Op) {
			fmt.Fprintf(&text, " %d", ins.To)
		}
		text.WriteString("\n")
	}
	return text.String()
}

// brief is a program for messages.
func brief(p []impl.Ins) string {
	text := strings.ReplaceAll(codeText(p), "\n", "; ")
	if len(text) > 400 {
		return text[:400] + ".."
	}
	return text
}

// rightBy is what ProgramOK is to tell.
func rightBy(p []impl.Ins) bool {
	if len(p) == 0 || len(p) > 50000 {
		return false
	}
	for _, ins := range p {
		if !slices.Contains(allOps, ins.Op) {
			return false
		}
		if opHasTo(ins.Op) && (ins.To < 0 || ins.To >= len(p)) || !opHasTo(ins.Op) && ins.To != 0 {
			return false
		}
		switch {
		case ins.Op == impl.InFail:
			if ins.N != impl.ErrText && ins.N != impl.ErrPlace {
				return false
			}
		case opHasN(ins.Op):
			if ins.N < 0 || ins.N > 1000 {
				return false
			}
		case ins.N != 0:
			return false
		}
	}
	return opEnds(p[len(p)-1].Op)
}

// ran is all that RunProgram answers.
type ran struct {
	told  []int
	code  int
	place int
	steps int
}

func (a ran) same(b ran) bool {
	return slices.Equal(a.told, b.told) && a.code == b.code && a.place == b.place && a.steps == b.steps
}

func runOf(p []impl.Ins, word []int, fuel int) ran {
	told, code, place, steps := impl.RunProgram(p, word, fuel)
	return ran{told, code, place, steps}
}

// ranBy is what RunProgram is to tell of a program, a word and fuel that are right.
func ranBy(p []impl.Ins, word []int, fuel int) ran {
	var now ran
	var pile []int
	for at := 0; ; {
		if now.steps == fuel {
			now.code = impl.ErrTired
			return now
		}
		now.steps++
		ins := p[at]
		goes := false
		switch ins.Op {
		case impl.InPush:
			if len(pile)+1 > 10000 {
				now.code = impl.ErrFull
				return now
			}
			pile = append(pile, ins.N)
		case impl.InDrop:
			if !(len(pile) > ins.N) {
				now.code = impl.ErrPlace
				return now
			}
			pile = pile[:len(pile)-ins.N]
		case impl.InTell:
			if len(now.told)+1 > 10000 {
				now.code = impl.ErrFull
				return now
			}
			now.told = append(now.told, ins.N)
		case impl.InPass:
			if now.place == len(word) {
				now.code = impl.ErrText
				return now
			}
			now.place++
		case impl.InJump:
			goes = true
		case impl.InIfNext:
			goes = now.place < len(word) && word[now.place] == ins.N
		case impl.InIfEnd:
			goes = now.place == len(word)
		case impl.InIfTop:
			goes = len(pile) > 0 && pile[len(pile)-1] == ins.N
		case impl.InDone:
			now.code = impl.OK
			return now
		case impl.InFail:
			now.code = ins.N
			return now
		}
		at++
		if goes {
			at = ins.To
		}
	}
}

// wantRan compares with what is told here, and with the model.
func wantRan(t *testing.T, p []impl.Ins, word []int, fuel int, want ran) {
	t.Helper()
	if got := runOf(p, word, fuel); !got.same(want) {
		t.Errorf("%s: over %v with fuel %d: told %.100v, code %d, place %d, %d steps, and should be %.100v, %d, %d, %d", brief(p), word, fuel,
			fmt.Sprint(got.told), got.code, got.place, got.steps, fmt.Sprint(want.told), want.code, want.place, want.steps)
	}
	if model := ranBy(p, word, fuel); !model.same(want) {
		t.Errorf("%s: over %v with fuel %d: the test says %v and its model %v", brief(p), word, fuel, want, model)
	}
}

func noRun(t *testing.T, why string, p []impl.Ins, word []int, fuel int) {
	t.Helper()
	if got := runOf(p, word, fuel); len(got.told) > 0 || got.code != impl.ErrBad || got.place != 0 || got.steps != 0 {
		t.Errorf("%s: RunProgram answers %v", why, got)
	}
}

// noProgram asks for ErrBad of all functions that take one.
func noProgram(t *testing.T, why string, p []impl.Ins) {
	t.Helper()
	if impl.ProgramOK(p) {
		t.Errorf("%s: ProgramOK is true", why)
	}
	noRun(t, why, p, nil, 5)
	if q, code := impl.Tighten(p); len(q) > 0 || code != impl.ErrBad {
		t.Errorf("%s: Tighten answers %d instructions, %d", why, len(q), code)
	}
	if s, code := impl.ProgramShow(p); s != "" || code != impl.ErrBad {
		t.Errorf("%s: ProgramShow answers %d bytes, %d", why, len(s), code)
	}
}

// aProgram asks for no ErrBad of any function that takes one.
func aProgram(t *testing.T, why string, p []impl.Ins) {
	t.Helper()
	if !impl.ProgramOK(p) {
		t.Errorf("%s: ProgramOK is false", why)
	}
	_, run, _, _ := impl.RunProgram(p, nil, 5)
	_, tight := impl.Tighten(p)
	_, show := impl.ProgramShow(p)
	if run == impl.ErrBad || tight != impl.OK || show != impl.OK && show != impl.ErrFull {
		t.Errorf("%s: the codes are %d, %d, %d", why, run, tight, show)
	}
}

// laidLine is an instruction that leads to a part by the part's name.
type laidLine struct {
	op int
	n  int
	to string
}

// laid is a program whose parts have names.
type laid struct {
	lines []laidLine
	parts map[string]int
}

func (l *laid) part(name string) { l.parts[name] = len(l.lines) }

func (l *laid) put(op int, n int, to string) { l.lines = append(l.lines, laidLine{op, n, to}) }

func (l *laid) program() []impl.Ins {
	var p []impl.Ins
	for _, line := range l.lines {
		ins := impl.Ins{Op: line.op, N: line.n}
		if line.to != "" {
			place, known := l.parts[line.to]
			if !known {
				panic(line.to)
			}
			ins.To = place
		}
		p = append(p, ins)
	}
	return p
}

func hasAct(table impl.Table, act impl.Act) bool {
	return slices.ContainsFunc(table.Acts, func(row []impl.Act) bool { return slices.Contains(row, act) })
}

// laidBy is what Made is to give, of a table that is right.
func laidBy(b impl.Bnf, table impl.Table) []impl.Ins {
	l := &laid{parts: map[string]int{}}
	row := func(state int) string { return fmt.Sprint("row ", table.Acts[state]) }
	asks := func(act impl.Act) string { return fmt.Sprint("do ", act) }
	l.put(impl.InPush, 0, "")
	l.put(impl.InJump, 0, row(0))
	for state, acts := range table.Acts {
		if _, known := l.parts[row(state)]; known {
			continue
		}
		l.part(row(state))
		for term, act := range acts {
			if act.Kind == impl.AcNone {
				continue
			}
			if term == len(b.Terms) {
				l.put(impl.InIfEnd, 0, asks(act))
			} else {
				l.put(impl.InIfNext, term, asks(act))
			}
		}
		l.put(impl.InFail, impl.ErrText, "")
	}
	for state := range table.Acts {
		if hasAct(table, shiftTo(state)) {
			l.part(asks(shiftTo(state)))
			l.put(impl.InPush, state, "")
			l.put(impl.InPass, 0, "")
			l.put(impl.InJump, 0, row(state))
		}
	}
	l.putReduces(b, table)
	if hasAct(table, accepted) {
		l.part(asks(accepted))
		l.put(impl.InDone, 0, "")
	}
	return l.program()
}

// putReduces lays the parts 4, 5 and 6.
func (l *laid) putReduces(b impl.Bnf, table impl.Table) {
	for prod, p := range b.Prods {
		if hasAct(table, reduceBy(prod)) {
			l.part(fmt.Sprint("do ", reduceBy(prod)))
			l.put(impl.InDrop, len(p.Right), "")
			l.put(impl.InTell, prod, "")
			l.put(impl.InJump, 0, fmt.Sprint("non ", p.Left-len(b.Terms)))
		}
	}
	isLeft := func(non int) bool {
		for prod, p := range b.Prods {
			if p.Left == len(b.Terms)+non && hasAct(table, reduceBy(prod)) {
				return true
			}
		}
		return false
	}
	led := map[int]bool{}
	for non := range b.Nons {
		if !isLeft(non) {
			continue
		}
		l.part(fmt.Sprint("non ", non))
		for state, gotos := range table.Gotos {
			if gotos[non] >= 0 {
				l.put(impl.InIfTop, state, fmt.Sprint("enter ", gotos[non]))
				led[gotos[non]] = true
			}
		}
		l.put(impl.InFail, impl.ErrPlace, "")
	}
	for state := range table.Acts {
		if led[state] {
			l.part(fmt.Sprint("enter ", state))
			l.put(impl.InPush, state, "")
			l.put(impl.InJump, 0, fmt.Sprint("row ", table.Acts[state]))
		}
	}
}

// checkMade compares with the model.
func checkMade(t *testing.T, b impl.Bnf, table impl.Table) []impl.Ins {
	t.Helper()
	p, code := impl.Made(b, table)
	if want := laidBy(b, table); !slices.Equal(p, want) || code != impl.OK {
		t.Fatalf("%s, %v: Made is\n%s, code %d\nand should be\n%s", shownRules(b), table, codeText(p), code, codeText(want))
	}
	if !impl.ProgramOK(p) {
		t.Fatalf("%s, %v: what is made is no program:\n%s", shownRules(b), table, codeText(p))
	}
	return p
}

// wantMade compares with lines, too.
func wantMade(t *testing.T, why string, b impl.Bnf, table impl.Table, lines ...string) {
	t.Helper()
	if p := checkMade(t, b, table); codeText(p) != strings.Join(lines, "\n")+"\n" {
		t.Errorf("%s: Made is\n%s\nand should be\n%s", why, codeText(p), strings.Join(lines, "\n"))
	}
}

func noMade(t *testing.T, why string, b impl.Bnf, table impl.Table) {
	t.Helper()
	if p, code := impl.Made(b, table); len(p) > 0 || code != impl.ErrBad {
		t.Errorf("%s: Made answers %d instructions, code %d", why, len(p), code)
	}
}

// asParseDoes asks that a program does what Parse does, and is the code; nothing is asked where that is ErrLoop, or steps are not left, which is told as that.
func asParseDoes(t *testing.T, b impl.Bnf, table impl.Table, p []impl.Ins, word []int) int {
	t.Helper()
	list, code, at := impl.Parse(b, table, word)
	got := runOf(p, word, impl.MaxSteps)
	if code == impl.ErrLoop || got.code == impl.ErrTired {
		return impl.ErrLoop
	}
	if got.code != code || code != impl.OK && got.place != at {
		t.Fatalf("%s, %v: over %v the program answers %v and Parse %v, %d, %d", shownRules(b), table, word, got, list, code, at)
	}
	if code == impl.OK && !slices.Equal(got.told, reducesOf(b, table, word)) {
		t.Fatalf("%s, %v: over %v the program tells %v", shownRules(b), table, word, got.told)
	}
	return code
}

// reducesOf are the Prods of the reduces of a word that is accepted, one after the other.
func reducesOf(b impl.Bnf, table impl.Table, word []int) []int {
	d := newDrive()
	if done, _, _ := d.through(b, table, word); !done {
		d.with(b, table, len(b.Terms))
	}
	var prods []int
	for _, one := range d.done {
		prods = append(prods, one.prod)
	}
	return prods
}

// upBy is the derivation at the begin of d, from below, and what is behind it; none where there is none by the symbol.
func upBy(b impl.Bnf, symbol int, d []int) (up []int, rest []int, found bool) {
	if symbol < len(b.Terms) {
		return nil, d, true
	}
	if len(d) == 0 || d[0] < 0 || d[0] >= len(b.Prods) || b.Prods[d[0]].Left != symbol {
		return nil, nil, false
	}
	rest = d[1:]
	for _, kid := range b.Prods[d[0]].Right {
		below, behind, right := upBy(b, kid, rest)
		if !right {
			return nil, nil, false
		}
		up, rest = append(up, below...), behind
	}
	return append(up, d[0]), rest, true
}

// downBy puts what was told together from a pile of derivations.
func downBy(b impl.Bnf, non int, told []int) ([]int, bool) {
	var pile [][]int
	for _, prod := range told {
		if prod < 0 || prod >= len(b.Prods) {
			return nil, false
		}
		d := []int{}
		for _, symbol := range slices.Backward(b.Prods[prod].Right) {
			if symbol < len(b.Terms) {
				continue
			}
			if len(pile) == 0 || b.Prods[pile[len(pile)-1][0]].Left != symbol {
				return nil, false
			}
			d = append(slices.Clone(pile[len(pile)-1]), d...)
			pile = pile[:len(pile)-1]
		}
		pile = append(pile, append([]int{prod}, d...))
	}
	if len(pile) != 1 || b.Prods[pile[0][0]].Left != len(b.Terms)+non {
		return nil, false
	}
	return pile[0], true
}

func wantUp(t *testing.T, b impl.Bnf, non int, d []int, want []int, wantCode int) {
	t.Helper()
	if up, code := impl.Upwards(b, non, d); !slices.Equal(up, want) || code != wantCode {
		t.Errorf("%s: Upwards by %d of %.100s: %.100s, code %d, and should be %.100s, code %d", shownRules(b), non, fmt.Sprint(d), fmt.Sprint(up), code, fmt.Sprint(want), wantCode)
	}
}

func wantDown(t *testing.T, b impl.Bnf, non int, told []int, want []int, wantCode int) {
	t.Helper()
	if down, code := impl.Downwards(b, non, told); !slices.Equal(down, want) || code != wantCode {
		t.Errorf("%s: Downwards by %d of %.100s: %.100s, code %d, and should be %.100s, code %d", shownRules(b), non, fmt.Sprint(told), fmt.Sprint(down), code, fmt.Sprint(want), wantCode)
	}
}

// wantBoth asks for one from the other and back.
func wantBoth(t *testing.T, b impl.Bnf, non int, down []int, up []int) {
	t.Helper()
	wantUp(t, b, non, down, up, impl.OK)
	wantDown(t, b, non, up, down, impl.OK)
}

// noOrder asks for a code of both.
func noOrder(t *testing.T, b impl.Bnf, non int, list []int, want int) {
	t.Helper()
	wantUp(t, b, non, list, nil, want)
	wantDown(t, b, non, list, nil, want)
}

// tightBy is what Tighten is to give, of a program that is right.
func tightBy(was []impl.Ins) []impl.Ins {
	p := slices.Clone(was)
	for i, ins := range was {
		if !opHasTo(ins.Op) {
			continue
		}
		to := ins.To
		for range len(was) {
			if was[to].Op == impl.InJump {
				to = was[to].To
			}
		}
		if was[to].Op != impl.InJump {
			p[i].To = to
		}
	}
	gone := goneBy(p)
	var kept []impl.Ins
	for i, ins := range p {
		if gone[i] {
			continue
		}
		if opHasTo(ins.Op) {
			for gone[ins.To] {
				ins.To++
			}
			ins.To -= countOf(gone[:ins.To])
		}
		kept = append(kept, ins)
	}
	return kept
}

func countOf(list []bool) int {
	n := 0
	for _, holds := range list {
		n += oneFor(holds)
	}
	return n
}

// goneBy are those that leave: as long as one of the document's sentences says so of one more.
func goneBy(p []impl.Ins) []bool {
	come := make([]bool, len(p))
	come[0] = true
	for n := 0; n < countOf(come); {
		n = countOf(come)
		for i, ins := range p {
			if come[i] && opHasTo(ins.Op) {
				come[ins.To] = true
			}
			if come[i] && !opEnds(ins.Op) {
				come[i+1] = true
			}
		}
	}
	gone := make([]bool, len(p))
	for i := range p {
		gone[i] = !come[i]
	}
	for n := -1; n < countOf(gone); {
		n = countOf(gone)
		for i, ins := range p {
			if opHasTo(ins.Op) && ins.To > i && countOf(gone[i+1:ins.To]) == ins.To-i-1 {
				gone[i] = true
			}
		}
	}
	return gone
}

// checkTight compares with the model.
func checkTight(t *testing.T, p []impl.Ins) []impl.Ins {
	t.Helper()
	q, code := impl.Tighten(p)
	if want := tightBy(p); !slices.Equal(q, want) || code != impl.OK {
		t.Fatalf("Tighten of %s is %s, code %d, and should be %s", brief(p), brief(q), code, brief(want))
	}
	if !impl.ProgramOK(q) || len(q) > len(p) {
		t.Fatalf("Tighten of %s is %s, which is no program, or longer", brief(p), brief(q))
	}
	return q
}

func wantTight(t *testing.T, why string, from string, to string) {
	t.Helper()
	if q := checkTight(t, coded(from)); !slices.Equal(q, coded(to)) {
		t.Errorf("%s: Tighten of %s is %s and should be %s", why, from, brief(q), to)
	}
}

// doesTheSame asks of the tighter program for the same in no more steps, and is the code; nothing is asked where the other one is tired.
func doesTheSame(t *testing.T, p []impl.Ins, tighter []impl.Ins, word []int, fuel int) int {
	t.Helper()
	was, now := runOf(p, word, fuel), runOf(tighter, word, fuel)
	if was.code == impl.ErrTired {
		return was.code
	}
	if now.steps > was.steps || now.code != was.code || now.place != was.place || !slices.Equal(now.told, was.told) {
		t.Fatalf("%s: over %v it is %v, and tighter (%s) it is %v", brief(p), word, was, brief(tighter), now)
	}
	return was.code
}

// aLine matches the lines of programs.
var aLine = regexp.MustCompile(`\A(?:(push|drop|tell|fail|jump|ifend) (0|[1-9][0-9]{0,5})|(ifnext|iftop) (0|[1-9][0-9]{0,5}) (0|[1-9][0-9]{0,5})|(pass|done))\n\z`)

// readBy is what ProgramRead is to tell.
func readBy(s string) ([]impl.Ins, int, int) {
	if len(s) > 400000 {
		return nil, impl.ErrBad, 0
	}
	var p []impl.Ins
	for i, line := range strings.SplitAfter(s, "\n") {
		if line == "" {
			continue
		}
		if !aLine.MatchString(line) {
			return nil, impl.ErrText, i
		}
		p = append(p, coded(line)...)
	}
	if !rightBy(p) {
		return nil, impl.ErrForm, 0
	}
	return p, impl.OK, 0
}

// wantRead compares with the model, too.
func wantRead(t *testing.T, s string, want []impl.Ins, wantCode int, wantLine int) {
	t.Helper()
	p, code, line := impl.ProgramRead(s)
	if !slices.Equal(p, want) || code != wantCode || line != wantLine {
		t.Errorf("ProgramRead of %.80q (%d bytes): %d instructions, code %d, line %d, and should be %d, %d, %d", s, len(s), len(p), code, line, len(want), wantCode, wantLine)
	}
	model, modelCode, modelLine := readBy(s)
	if !slices.Equal(model, want) || modelCode != wantCode || modelLine != wantLine {
		t.Errorf("of %.80q the test says %d, %d, and its model %d, %d", s, wantCode, wantLine, modelCode, modelLine)
	}
}

// checkText shows and reads, and compares with the model.
func checkText(t *testing.T, p []impl.Ins) {
	t.Helper()
	s, code := impl.ProgramShow(p)
	want := codeText(p)
	if len(want) > impl.MaxCode {
		if s != "" || code != impl.ErrFull {
			t.Fatalf("ProgramShow of %s: %d bytes, code %d", brief(p), len(s), code)
		}
		return
	}
	if s != want || code != impl.OK {
		t.Fatalf("ProgramShow of %s: %.400q, code %d", brief(p), s, code)
	}
	if again, code, line := impl.ProgramRead(s); !slices.Equal(again, p) || code != impl.OK || line != 0 {
		t.Fatalf("ProgramRead of %.400q: %s, code %d, line %d", s, brief(again), code, line)
	}
}

// someProgram has small numbers, so that all that may come of it does.
func someProgram(r *rand.Rand, longest int) []impl.Ins {
	p := make([]impl.Ins, 1+r.Intn(longest))
	for i := range p {
		p[i].Op = oneOf(r, allOps...)
		if r.Intn(3) == 0 {
			p[i].Op = oneOf(r, impl.InJump, impl.InIfEnd, impl.InIfTop)
		}
		for i == len(p)-1 && !opEnds(p[i].Op) {
			p[i].Op = oneOf(r, allOps...)
		}
		if opHasN(p[i].Op) {
			p[i].N = r.Intn(3)
		}
		if p[i].Op == impl.InFail {
			p[i].N = oneOf(r, impl.ErrText, impl.ErrPlace)
		}
		if opHasTo(p[i].Op) {
			p[i].To = r.Intn(len(p))
		}
	}
	return p
}
