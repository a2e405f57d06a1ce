package tests

import (
	"math/rand"
	"regexp"
	"slices"
	"strings"
	"testing"

	"loop.example/g00037/impl"
)

// The grammar of patterns, read in all ways at once: of the places where one of its words may begin, the places where it may end.
type rxGrammar string

func (g rxGrammar) rx(at int) []int {
	return g.again(g.cat(at), func(at int) []int { return g.then(g.sign("|", at), g.cat) })
}

func (g rxGrammar) cat(at int) []int { return g.again([]int{at}, g.rep) }

func (g rxGrammar) rep(at int) []int {
	return g.again(g.atom(at), func(at int) []int { return g.sign("*+?", at) })
}

func (g rxGrammar) atom(at int) []int {
	ends := g.sign(".", at)
	for _, b := range g.one(at, "|*+?().[]\\") {
		ends = append(ends, b)
	}
	ends = append(ends, g.then(g.then(g.sign("(", at), g.rx), func(at int) []int { return g.sign(")", at) })...)
	open := g.sign("[", at)
	open = append(open, g.then(open, func(at int) []int { return g.sign("^", at) })...)
	return append(ends, g.then(g.again(g.then(open, g.item), g.item), func(at int) []int { return g.sign("]", at) })...)
}

func (g rxGrammar) item(at int) []int {
	ends := g.one(at, "]-\\^")
	for _, dash := range ends {
		for _, second := range g.sign("-", dash) {
			for _, end := range g.one(second, "]-\\^") {
				if meant(string(g[at:dash])) <= meant(string(g[second:end])) {
					ends = append(ends, end)
				}
			}
		}
	}
	return ends
}

// meant is the byte that a one means.
func meant(one string) byte {
	switch one {
	case "\\n":
		return 10
	case "\\t":
		return 9
	}
	return one[len(one)-1]
}

func (g rxGrammar) one(at int, signs string) []int {
	if at >= len(g) {
		return nil
	}
	if g[at] >= 32 && g[at] <= 126 && strings.IndexByte(signs, g[at]) < 0 {
		return []int{at + 1}
	}
	if g[at] == '\\' && at+1 < len(g) && (strings.IndexByte("nt", g[at+1]) >= 0 || g[at+1] >= 33 && g[at+1] <= 126 && !regexp.MustCompile(`^[a-zA-Z0-9]`).MatchString(string(g[at+1:]))) {
		return []int{at + 2}
	}
	return nil
}

func (g rxGrammar) sign(signs string, at int) []int {
	if at < len(g) && strings.IndexByte(signs, g[at]) >= 0 {
		return []int{at + 1}
	}
	return nil
}

func (g rxGrammar) then(from []int, next func(at int) []int) []int {
	var ends []int
	for _, at := range from {
		ends = append(ends, next(at)...)
	}
	slices.Sort(ends)
	return slices.Compact(ends)
}

func (g rxGrammar) again(from []int, next func(at int) []int) []int {
	all := slices.Clone(from)
	for len(from) > 0 {
		from = slices.DeleteFunc(g.then(from, next), func(at int) bool { return slices.Contains(all, at) })
		all = append(all, from...)
	}
	return all
}

func isPattern(s string) bool { return slices.Contains(rxGrammar(s).rx(0), len(s)) }

// canGoOn tells whether a pattern begins with s: one of these ends it then.
func canGoOn(s string) bool {
	for _, end := range []string{"", "!", "!]", "a]", "]", "~]"} {
		for n := 0; n <= len(s); n++ {
			if isPattern(s + end + strings.Repeat(")", n)) {
				return true
			}
		}
	}
	return false
}

// rxFault is what RxOK tells of a short text.
func rxFault(s string) (int, int) {
	if isPattern(s) {
		return impl.OK, 0
	}
	at := 0
	for at < len(s) && canGoOn(s[:at+1]) {
		at++
	}
	if at < len(s) && at >= 2 && s[at-2:at] == "-\\" && rxGrammar(s).one(at-1, "\\") != nil {
		// It is one, so it is the second of a - and too low: what is told is its \.
		return impl.ErrText, at - 1
	}
	return impl.ErrText, at
}

func TestFirstFaultOfEachShortPattern(t *testing.T) {
	var texts []string
	texts = append(texts, textsOver("a|*(.)[", 4)...)
	texts = append(texts, textsOver("b[]-^\\!n", 4)...)
	for _, s := range textsOver("b!~-\\]^tq", 4) {
		texts = append(texts, "["+s, "[^"+s, "a[c-"+s)
	}
	for _, s := range textsOver(everyByte(0, 256), 1) {
		texts = append(texts, s, "a"+s, "\\"+s, "["+s, "[^"+s, "[a"+s, "[\\"+s, "[a-"+s, "[5-\\"+s+"]", "("+s+")", "["+s+"]", "[^"+s+"]x", "a"+s+"b", "\\"+s+"*")
	}
	for _, s := range texts {
		code, at := impl.RxOK(s)
		if wantCode, wantAt := rxFault(s); code != wantCode || at != wantAt {
			t.Fatalf("RxOK(%q) is %d, %d and should be %d, %d", s, code, at, wantCode, wantAt)
		}
	}
}

func TestPlacesOfFaults(t *testing.T) {
	for _, x := range []struct {
		rx string
		at int
	}{
		{"[b-\\!]", 3}, {"[b-\\n]", 3}, {"[b-\\q]", 4}, {"[b-\\", 4}, {"[b-]", 3}, {"[a-b-c]", 4}, {"[^]", 2}, {"[a^]", 2}, {"[-a]", 1}, {"[\\9]", 2},
		{"a|*", 2}, {"(+)", 1}, {"a(b", 3}, {"(a))", 3}, {"((a)", 4}, {"ab]", 2}, {"\\", 1}, {"\\ ", 1}, {"x\\", 2}, {"a\x7f", 1}, {"a\x1f", 1}, {"\xff", 0}, {"a\x00b", 1}, {"[\n]", 1}, {"[a\x80]", 2},
		{strings.Repeat("(", impl.MaxRx), impl.MaxRx}, {strings.Repeat("a", impl.MaxRx-1) + ")", impl.MaxRx - 1}, {strings.Repeat("a", impl.MaxRx-1) + "(", impl.MaxRx},
	} {
		if code, at := impl.RxOK(x.rx); code != impl.ErrText || at != x.at {
			t.Errorf("RxOK(%q) is %d, %d and should be ErrText, %d", x.rx, code, at, x.at)
		}
		if ok, code := impl.RxMatch(x.rx, ""); ok || code != impl.ErrBad {
			t.Errorf("RxMatch(%q) is %v, %d", x.rx, ok, code)
		}
		if d, code := impl.Machine([]string{"a", x.rx}); !noMachine(d) || code != impl.ErrBad {
			t.Errorf("Machine with %q answers code %d", x.rx, code)
		}
	}
	for _, rx := range []string{"", "|", "()", "(|)*", "a||b", "^-", "{}", "[|*+?().[]", "[ -~]", "\\_", "a*+?", "[~-\\~]", "[\\n-\\n]", strings.Repeat("(", impl.MaxRx/2) + strings.Repeat(")", impl.MaxRx/2), "a" + strings.Repeat("*", impl.MaxRx-1)} {
		if code, at := impl.RxOK(rx); code != impl.OK || at != 0 {
			t.Errorf("RxOK(%q) is %d, %d", rx, code, at)
		}
	}
}

func TestLengthOfPatternsAndTexts(t *testing.T) {
	for _, rx := range []string{strings.Repeat("a", impl.MaxRx+1), strings.Repeat("(", impl.MaxRx+1), ")" + strings.Repeat("a", impl.MaxRx), strings.Repeat("\n", 100000)} {
		if code, at := impl.RxOK(rx); code != impl.ErrBad || at != 0 {
			t.Errorf("a pattern of %d bytes: %d, %d", len(rx), code, at)
		}
		if ok, code := impl.RxMatch(rx, "a"); ok || code != impl.ErrBad {
			t.Errorf("RxMatch of a pattern of %d bytes: %v, %d", len(rx), ok, code)
		}
	}
	if rx := strings.Repeat("a", impl.MaxRx); !mustMatch(t, rx, rx) || mustMatch(t, rx, rx+"a") || mustMatch(t, rx, rx[1:]) {
		t.Error("the longest pattern")
	}
	long := strings.Repeat("a", impl.MaxMatch)
	if !mustMatch(t, "a*", long) || mustMatch(t, "a*b", long) {
		t.Error("the longest text")
	}
	for _, s := range []string{long + "a", long + "\n", strings.Repeat("b", 100000)} {
		if ok, code := impl.RxMatch("a*", s); ok || code != impl.ErrBad {
			t.Errorf("a text of %d bytes: %v, %d", len(s), ok, code)
		}
	}
}

func TestPatternsReadWhatTheyMean(t *testing.T) {
	r := rand.New(rand.NewSource(2))
	texts := textsOver("abc\n\xff", 3)
	for i := range 400 {
		p := somePatFit(r, 1+i%4)
		rx := p.show(0)
		if code, at := impl.RxOK(rx); code != impl.OK || at != 0 {
			t.Fatalf("RxOK(%q) is %d, %d", rx, code, at)
		}
		for _, s := range append(texts, someText(r, 40), someText(r, impl.MaxMatch)) {
			if mustMatch(t, rx, s) != p.reads(s) {
				t.Fatalf("RxMatch(%q, %q) should be %v", rx, s, p.reads(s))
			}
		}
	}
}

func someText(r *rand.Rand, length int) string {
	s := make([]byte, length)
	for i := range s {
		s[i] = "aaabbc"[r.Intn(6)]
	}
	return string(s)
}

// The library's patterns mean the same, as far as both know them.
func TestPatternsAgainstTheLibrary(t *testing.T) {
	for _, rx := range textsOver("ab|*+?()", 5) {
		if code, _ := impl.RxOK(rx); code != impl.OK || strings.Contains(rx, "*?") || strings.Contains(rx, "+?") || strings.Contains(rx, "??") {
			continue // a ? behind these means another thing there
		}
		other, err := regexp.Compile("^(?:" + rx + ")$")
		if err != nil {
			continue
		}
		for _, s := range []string{"", "a", "b", "aa", "ab", "ba", "abab", "aab"} {
			if mustMatch(t, rx, s) != other.MatchString(s) {
				t.Fatalf("RxMatch(%q, %q) should be %v", rx, s, other.MatchString(s))
			}
		}
	}
}

func TestEachAtomByEachByte(t *testing.T) {
	atoms := append(atomPats(), atomPat("[b-y]", everyByte('b', 'z')), atomPat("[ -~]", everyByte(32, 127)), atomPat("[^ -~]", everyByte(0, 32)+everyByte(127, 256)), atomPat("[\\t-\\n\\]\\-\\\\\\^]", "\t\n]-\\^"), atomPat("[|*+?().[]", "|*+?().["), atomPat("[ac-eg]", "acdeg"), atomPat("[^\\^]", without("^")), atomPat("\\t", "\t"), atomPat(" ", " "), atomPat("^", "^"), atomPat("-", "-"))
	for b := 33; b < 127; b++ {
		if regexp.MustCompile("[^a-zA-Z0-9]").MatchString(string(rune(b))) {
			atoms = append(atoms, atomPat("\\"+string(rune(b)), string(rune(b))), atomPat("[\\"+string(rune(b))+"]", string(rune(b))))
		}
	}
	for _, p := range atoms {
		for b := range 256 {
			s := string([]byte{byte(b)})
			if mustMatch(t, p.text, s) != strings.Contains(p.set, s) {
				t.Errorf("%q read as %q", p.text, s)
			}
		}
	}
}

// Patterns that can be read in very many ways are read as quickly as others.
func TestPatternsWithManyWays(t *testing.T) {
	long := strings.Repeat("a", impl.MaxMatch)
	nested := strings.Repeat("(", 32) + "a" + strings.Repeat(")*", 32)
	for _, x := range []struct {
		rx   string
		ends string
		ok   bool
	}{
		{nested, "", true}, {nested, "b", false}, {nested + "b", "b", true}, {"((a*)*a*)*b", "", false}, {strings.Repeat("(|)", 33), "", false}, {strings.Repeat("(a|a)", 19) + ".*", "", true}, {strings.Repeat("(a|a|a*)", 12) + "b", "", false},
		{strings.Repeat("a?", 49), "", false}, {strings.Repeat("a*", 49) + "b", "b", true}, {"(a+)+b", "", false}, {"a" + strings.Repeat("*+?", 33), "", true}, {"(((()*)+)?)*", "", false}, {"(a|b|)*()*c", "c", true},
	} {
		s := long[:impl.MaxMatch-len(x.ends)] + x.ends
		if mustMatch(t, x.rx, s) != x.ok {
			t.Errorf("%q", x.rx)
		}
	}
}
