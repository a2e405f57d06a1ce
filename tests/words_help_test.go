package tests

import (
	"fmt"
	"math/rand"
	"slices"
	"strings"
	"testing"

	"loop.example/g00037/impl"
)

// pat is a pattern as a tree: what it reads is found without its text.
type pat struct {
	kind byte // 'a' an atom, 'c' one behind the other, or one of | * + ?
	text string
	set  string // the bytes that an atom is read as
	kids []*pat
}

func atomPat(text string, set string) *pat { return &pat{kind: 'a', text: text, set: set} }

func without(bytes string) string {
	return string(slices.DeleteFunc([]byte(everyByte(0, 256)), func(b byte) bool { return strings.IndexByte(bytes, b) >= 0 }))
}

// atomPats are atoms of all kinds, few bytes being in many of them.
func atomPats() []*pat {
	return []*pat{
		atomPat("a", "a"), atomPat("b", "b"), atomPat("c", "c"), atomPat("a", "a"), atomPat("b", "b"),
		atomPat("[ab]", "ab"), atomPat("[a-c]", "abc"), atomPat("[c-c]", "c"), atomPat("[^a]", without("a")), atomPat("[^a-c]", without("abc")),
		atomPat(".", without("\n")), atomPat("\\n", "\n"), atomPat("[\\t-\\n]", "\t\n"), atomPat("\\*", "*"), atomPat("[*]", "*"), atomPat("[^\\n-~]", without(everyByte(10, 127))),
	}
}

func somePat(r *rand.Rand, depth int) *pat {
	atoms := atomPats()
	if depth == 0 || r.Intn(5) == 0 {
		return atoms[r.Intn(len(atoms))]
	}
	kind := "cc||*+?"[r.Intn(7)]
	p := &pat{kind: kind}
	switch kind {
	case 'c':
		for n := r.Intn(4); n > 0; n-- {
			p.kids = append(p.kids, somePat(r, depth-1))
		}
	case '|':
		for n := 2 + r.Intn(2); n > 0; n-- {
			p.kids = append(p.kids, somePat(r, depth-1))
		}
	default:
		p.kids = []*pat{somePat(r, depth-1)}
	}
	return p
}

// somePatFit has a text that is not too long.
func somePatFit(r *rand.Rand, depth int) *pat {
	for {
		if p := somePat(r, depth); len(p.show(0)) <= impl.MaxRx {
			return p
		}
	}
}

// show writes brackets only where the pattern would mean another thing without; around is 0 for an rx, 1 for a cat, 2 for a rep.
func (p *pat) show(around int) string {
	var s string
	own := 0
	switch p.kind {
	case 'a':
		return p.text
	case '|':
		for i, kid := range p.kids {
			if i > 0 {
				s += "|"
			}
			s += kid.show(1)
		}
	case 'c':
		own = 1
		for _, kid := range p.kids {
			s += kid.show(2)
		}
	default:
		own = 2
		s = p.kids[0].show(2) + string(p.kind)
	}
	if own < around {
		return "(" + s + ")"
	}
	return s
}

// ends is the places where a read that begins at one of from can end.
func (p *pat) ends(s string, from []bool) []bool {
	out := make([]bool, len(s)+1)
	switch p.kind {
	case 'a':
		for i := range len(s) {
			out[i+1] = from[i] && strings.IndexByte(p.set, s[i]) >= 0
		}
	case 'c':
		out = slices.Clone(from)
		for _, kid := range p.kids {
			out = kid.ends(s, out)
		}
	case '|':
		for _, kid := range p.kids {
			out = joined(out, kid.ends(s, from))
		}
	case '?':
		out = joined(from, p.kids[0].ends(s, from))
	default:
		out = p.kids[0].ends(s, from)
		for more := out; slices.Contains(more, true); {
			more = p.kids[0].ends(s, more)
			for i := range more {
				more[i] = more[i] && !out[i]
			}
			out = joined(out, more)
		}
		if p.kind == '*' {
			out = joined(out, from)
		}
	}
	return out
}

func joined(a []bool, b []bool) []bool {
	out := slices.Clone(a)
	for i := range b {
		out[i] = out[i] || b[i]
	}
	return out
}

func (p *pat) reads(s string) bool {
	from := make([]bool, len(s)+1)
	from[0] = true
	return p.ends(s, from)[len(s)]
}

// last adds the atoms that the last byte of s can be, when s is read from one of from on as the begin of what p is read as.
func (p *pat) last(s string, from []bool, name string, found map[string]int) {
	switch p.kind {
	case 'a':
		if n := len(s) - 1; from[n] && strings.IndexByte(p.set, s[n]) >= 0 {
			found[name] = 1
		}
	case 'c':
		for i, kid := range p.kids {
			kid.last(s, from, fmt.Sprint(name, "/", i), found)
			from = kid.ends(s, from)
		}
	case '|':
		for i, kid := range p.kids {
			kid.last(s, from, fmt.Sprint(name, "/", i), found)
		}
	case '?':
		p.kids[0].last(s, from, name+"/0", found)
	default:
		again := &pat{kind: '*', kids: p.kids}
		p.kids[0].last(s, again.ends(s, from), name+"/0", found)
	}
}

// reachedBy is the set of atoms that s reaches, as a text: empty when no pattern can be read so far.
func reachedBy(pats []*pat, s string) string {
	found := map[string]int{}
	from := make([]bool, len(s)+1)
	from[0] = true
	for i, p := range pats {
		p.last(s, from, fmt.Sprint(i), found)
	}
	var names []string
	for name := range found {
		names = append(names, name)
	}
	slices.Sort(names)
	return strings.Join(names, " ")
}

// textsOver is all texts of at most length bytes, shorter ones first.
func textsOver(bytes string, length int) []string {
	texts := []string{""}
	for from, n := 0, 0; n < length; n++ {
		to := len(texts)
		for ; from < to; from++ {
			for i := range len(bytes) {
				texts = append(texts, texts[from]+bytes[i:i+1])
			}
		}
	}
	return texts
}

func showAll(pats []*pat) []string {
	var rxs []string
	for _, p := range pats {
		rxs = append(rxs, p.show(0))
	}
	return rxs
}

func mustMatch(t *testing.T, rx string, s string) bool {
	t.Helper()
	ok, code := impl.RxMatch(rx, s)
	if code != impl.OK {
		t.Fatalf("RxMatch(%q, %q) answers code %d", rx, s, code)
	}
	return ok
}

func mustMachine(t *testing.T, rxs ...string) impl.Dfa {
	t.Helper()
	d, code := impl.Machine(rxs)
	if code != impl.OK {
		t.Fatalf("Machine(%q) answers code %d", rxs, code)
	}
	return d
}

func sameMachine(a impl.Dfa, b impl.Dfa) bool {
	return slices.Equal(a.Class, b.Class) && slices.EqualFunc(a.Next, b.Next, slices.Equal) && slices.Equal(a.Accept, b.Accept)
}

func noMachine(d impl.Dfa) bool { return len(d.Class) == 0 && len(d.Next) == 0 && len(d.Accept) == 0 }
