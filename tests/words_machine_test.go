package tests

import (
	"math/rand"
	"slices"
	"strings"
	"testing"

	"loop.example/g00037/impl"
)

// somePatLists are lists of patterns, the same in each run.
func somePatLists() [][]*pat {
	r := rand.New(rand.NewSource(3))
	lists := [][]*pat{{}}
	for i := range 250 {
		var pats []*pat
		for n := 1 + r.Intn(4); n > 0; n-- {
			pats = append(pats, somePatFit(r, 1+i%3))
		}
		lists = append(lists, pats)
	}
	return lists
}

// longestBegin is the longest begin of s that RxMatch says one of rxs reads, and the first of these; -1 for none.
func longestBegin(t *testing.T, rxs []string, s string) (int, int) {
	for n := len(s); n >= 0; n-- {
		for i, rx := range rxs {
			if mustMatch(t, rx, s[:n]) {
				return n, i
			}
		}
	}
	return 0, -1
}

// reachOf is how far one must look from the begin of s on, as long as it is the begin of what one of pats is read as.
func reachOf(pats []*pat, s string) int {
	for n := 1; n <= len(s); n++ {
		if reachedBy(pats, s[:n]) == "" {
			return n
		}
	}
	return len(s) + 1
}

func TestMachineReadsTheLongestBegin(t *testing.T) {
	r := rand.New(rand.NewSource(4))
	texts := textsOver("ab\n", 3)
	for _, pats := range somePatLists() {
		rxs := showAll(pats)
		d := mustMachine(t, rxs...)
		for _, s := range append(texts, "c", "\xffa", "aa\x00b", "*\t", someText(r, 12)) {
			wantLength, wantFirst := longestBegin(t, rxs, s)
			length, first, reach, code := impl.DfaRun(d, s, 0)
			if length != wantLength || first != wantFirst || code != impl.OK {
				t.Fatalf("machine of %q on %q: %d, %d, code %d and should be %d, %d", rxs, s, length, first, code, wantLength, wantFirst)
			}
			if want := reachOf(pats, s); reach != want {
				t.Fatalf("machine of %q on %q: reach %d and should be %d", rxs, s, reach, want)
			}
			length, first, reach, code = impl.DfaRun(d, "a\n"+s, 2)
			if length != wantLength || first != wantFirst || reach != 2+reachOf(pats, s) || code != impl.OK {
				t.Fatalf("machine of %q on %q behind two bytes: %d, %d, %d, code %d", rxs, s, length, first, reach, code)
			}
		}
	}
}

// told parts the states of a machine that some text tells apart; the last of the list is that of no state.
func told(d impl.Dfa) []int {
	part := append(slices.Clone(d.Accept), -1)
	none := len(d.Next)
	for range part {
		finer := make([]int, len(part))
		rows := [][]int{}
		for s := range part {
			row := []int{part[s]}
			for c := range d.Next[0] {
				to := none
				if s != none && d.Next[s][c] >= 0 {
					to = d.Next[s][c]
				}
				row = append(row, part[to])
			}
			finer[s] = slices.IndexFunc(rows, func(r []int) bool { return slices.Equal(r, row) })
			if finer[s] < 0 {
				finer[s] = len(rows)
				rows = append(rows, row)
			}
		}
		if slices.Equal(finer, part) {
			break
		}
		part = finer
	}
	return part
}

// firstMet tells whether numbers are met in their order from 0 on.
func firstMet(numbers []int) bool {
	next := 0
	for _, n := range numbers {
		if n > next {
			return false
		}
		next = max(next, n+1)
	}
	return true
}

func checkLeast(t *testing.T, rxs []string, d impl.Dfa) {
	t.Helper()
	part := told(d)
	if len(d.Next) == 1 && len(rxs) == 0 {
		part = part[:1] // the one state that is there always
	}
	if sorted := slices.Sorted(slices.Values(part)); len(slices.Compact(sorted)) != len(part) {
		t.Fatalf("machine of %q: two states are alike, or one leads nowhere: %v", rxs, d)
	}
	met := []int{0}
	for _, row := range d.Next {
		met = append(met, row...)
	}
	if !firstMet(met) || slices.Max(met) != len(d.Next)-1 {
		t.Fatalf("machine of %q: states are not numbered as they are met: %v", rxs, d.Next)
	}
	if len(d.Class) != 256 || !firstMet(d.Class) || slices.Max(d.Class) != len(d.Next[0])-1 {
		t.Fatalf("machine of %q: classes are not numbered as they are met: %v", rxs, d.Class)
	}
	for c := range d.Next[0] {
		for e := range c {
			if !slices.ContainsFunc(d.Next, func(row []int) bool { return row[c] != row[e] }) {
				t.Fatalf("machine of %q: classes %d and %d are one", rxs, e, c)
			}
		}
	}
}

func TestNoTwoStatesAreAlike(t *testing.T) {
	for _, pats := range somePatLists() {
		rxs := showAll(pats)
		checkLeast(t, rxs, mustMachine(t, rxs...))
	}
	for _, rxs := range [][]string{{"[a-z]+", "[0-9]+", "if|else|while", " +", "[^\\n]"}, {"a?b?c?d?", "d?c?b?a?"}, {"(ab|ba)*", "(a|b)(a|b)"}, {".*", "a"}, {"a(b|c)d|e(b|c)d", "a.d"}, {"", "a*", "b*"}} {
		checkLeast(t, rxs, mustMachine(t, rxs...))
	}
}

func TestMachinesByHand(t *testing.T) {
	all := func(class ...byte) []int {
		list := make([]int, 256)
		for i, b := range class {
			list[b] = i + 1
		}
		return list
	}
	for _, x := range []struct {
		rxs  []string
		want impl.Dfa
	}{
		{nil, impl.Dfa{Class: all(), Next: [][]int{{-1}}, Accept: []int{-1}}},
		{[]string{""}, impl.Dfa{Class: all(), Next: [][]int{{-1}}, Accept: []int{0}}},
		{[]string{"a", ""}, impl.Dfa{Class: all('a'), Next: [][]int{{-1, 1}, {-1, -1}}, Accept: []int{1, 0}}},
		{[]string{"a*"}, impl.Dfa{Class: all('a'), Next: [][]int{{-1, 0}}, Accept: []int{0}}},
		{[]string{"a+"}, impl.Dfa{Class: all('a'), Next: [][]int{{-1, 1}, {-1, 1}}, Accept: []int{-1, 0}}},
		{[]string{"(a|b)*", "a", "b"}, impl.Dfa{Class: func() []int { c := all('a'); c['b'] = 1; return c }(), Next: [][]int{{-1, 0}}, Accept: []int{0}}},
		{[]string{"a", "(a|b)*"}, impl.Dfa{Class: all('a', 'b'), Next: [][]int{{-1, 1, 2}, {-1, 2, 2}, {-1, 2, 2}}, Accept: []int{1, 0, 1}}},
		{[]string{"ca|ba"}, impl.Dfa{Class: func() []int { c := all('a', 'b'); c['c'] = 2; return c }(), Next: [][]int{{-1, -1, 1}, {-1, 2, -1}, {-1, -1, -1}}, Accept: []int{-1, -1, 0}}},
		{[]string{"[^a]b"}, impl.Dfa{Class: all('a', 'b'), Next: [][]int{{1, -1, 1}, {-1, -1, 2}, {-1, -1, -1}}, Accept: []int{-1, -1, 0}}},
		{[]string{".", "\\n\\n"}, impl.Dfa{Class: all('\n'), Next: [][]int{{1, 2}, {-1, -1}, {-1, 3}, {-1, -1}}, Accept: []int{-1, 0, -1, 1}}},
	} {
		if d, code := impl.Machine(x.rxs); code != impl.OK || !sameMachine(d, x.want) {
			t.Errorf("Machine(%q) is %v, %d", x.rxs, d, code)
		}
	}
}

// chain is a pattern of n atoms, and reaches n sets; no other chain with another first byte shares one.
func chain(first string, n int) string { return first + strings.Repeat("a", n-1) }

// chains reach n sets.
func chains(n int) []string {
	var rxs []string
	for i := 0; n > 0; i++ {
		rxs = append(rxs, chain(string(rune('0'+i)), min(n, impl.MaxRx)))
		n -= impl.MaxRx
	}
	return rxs
}

// setsOf is how many sets are reached, found text by text.
func setsOf(pats []*pat, bytes string) int {
	found := map[string]int{}
	for texts := []string{""}; len(texts) > 0; texts = texts[1:] {
		for i := range len(bytes) {
			s := texts[0] + bytes[i:i+1]
			if set := reachedBy(pats, s); set != "" && found[set] == 0 {
				found[set] = 1
				texts = append(texts, s)
			}
		}
	}
	return len(found)
}

func TestMostSets(t *testing.T) {
	// rx 0 reads all that rx 1 reads, so that few states are left of their sets.
	hidden := []string{"(a|b)*", "(a|b)*a" + strings.Repeat("(a|b)", 7)}
	const hiddenSets = 256
	r := rand.New(rand.NewSource(5))
	few := []*pat{atomPat("a", "a"), atomPat("b", "b"), atomPat("[ab]", "ab")}
	some := &pat{kind: 'c', kids: []*pat{{kind: '*', kids: few[2:]}, few[0]}}
	for range 5 {
		some.kids = append(some.kids, few[r.Intn(3)], &pat{kind: '?', kids: []*pat{few[r.Intn(3)]}})
	}
	for _, x := range []struct {
		rxs  []string
		sets int
	}{{nil, 0}, {hidden, hiddenSets}, {hidden[1:], hiddenSets}, {[]string{some.show(0)}, setsOf([]*pat{some}, "ab")}} {
		fits := append(slices.Clone(x.rxs), chains(impl.MaxSets-x.sets)...)
		if d, code := impl.Machine(fits); code != impl.OK {
			t.Errorf("Machine(%q) answers code %d", fits, code)
		} else {
			checkLeast(t, fits, d)
		}
		full := append(slices.Clone(x.rxs), chains(impl.MaxSets+1-x.sets)...)
		if d, code := impl.Machine(full); code != impl.ErrFull || !noMachine(d) {
			t.Errorf("Machine(%q) answers code %d", full, code)
		}
	}
	if d := mustMachine(t, chains(impl.MaxSets)...); len(d.Next) != impl.MaxSets+1 {
		t.Errorf("%d states", len(d.Next))
	} else if n, k, reach, code := impl.DfaRun(d, chain("2", impl.MaxRx)+"a", 0); n != impl.MaxRx || k != 2 || reach != impl.MaxRx+1 || code != impl.OK {
		t.Error(n, k, reach, code)
	}
	if _, code := impl.Machine(append(chains(impl.MaxSets+1), "(")); code != impl.ErrBad {
		t.Errorf("a wrong pattern behind too many sets: code %d", code)
	}
	huge := "(a|b)*a" + strings.Repeat("(a|b)", 18)
	if d, code := impl.Machine(slices.Repeat([]string{huge}, impl.MaxRules)); code != impl.ErrFull || !noMachine(d) {
		t.Errorf("very many sets: code %d", code)
	}
}

func TestMostPatterns(t *testing.T) {
	var rxs []string
	for i := range impl.MaxRules {
		rxs = append(rxs, string(rune('a'+i))+"[a-z]?")
	}
	d := mustMachine(t, rxs...)
	checkLeast(t, rxs, d)
	if n, k, _, _ := impl.DfaRun(d, "tx", 0); n != 2 || k != impl.MaxRules-1 {
		t.Error(n, k)
	}
	if d, code := impl.Machine(append(rxs, "z")); code != impl.ErrBad || !noMachine(d) {
		t.Errorf("one pattern too many: code %d", code)
	}
	if d, code := impl.Machine(make([]string, impl.MaxRules+1)); code != impl.ErrBad || !noMachine(d) {
		t.Errorf("one empty pattern too many: code %d", code)
	}
	// As many atoms as there can be.
	full := slices.Repeat([]string{strings.Repeat(".", impl.MaxRx)}, impl.MaxRules)
	full[impl.MaxRules-1] = strings.Repeat(".", impl.MaxRx-1) + "+"
	d = mustMachine(t, full...)
	checkLeast(t, full, d)
	if n, k, _, _ := impl.DfaRun(d, strings.Repeat("a", 120), 0); n != 120 || k != impl.MaxRules-1 {
		t.Error(n, k)
	}
}

func TestMachinesShareNoList(t *testing.T) {
	rxs := []string{"if", "[a-z]+", "[0-9]+"}
	given := append(slices.Clone(rxs), "spare")[:3]
	d, e := mustMachine(t, given...), mustMachine(t, given...)
	for _, row := range append([][]int{d.Class, d.Accept}, d.Next...) {
		row = row[:cap(row)]
		for i := range row {
			if row[i] == 77 {
				t.Fatal("two lists of a machine share room")
			}
			row[i] = 77
		}
	}
	if !sameMachine(e, mustMachine(t, rxs...)) || !slices.Equal(given[:4], append(rxs, "spare")) {
		t.Error("a machine shares memory")
	}
}

// twoClasses is a machine of its own making: it tells 7 behind an even number of bytes above 0, and goes on over all bytes but byte 0.
func twoClasses() impl.Dfa {
	d := impl.Dfa{Class: make([]int, 256), Next: [][]int{{-1, 1}, {-1, 2}, {-1, 1}}, Accept: []int{-1, -1, 7}}
	for b := 1; b < 256; b++ {
		d.Class[b] = 1
	}
	return d
}

func TestRuns(t *testing.T) {
	long := strings.Repeat("a", impl.MaxText)
	for _, x := range []struct {
		s                 string
		from              int
		length, at, reach int
	}{
		{"", 0, 0, -1, 1}, {"a", 0, 0, -1, 2}, {"ab", 0, 2, 7, 3}, {"abc", 0, 2, 7, 4}, {"abc", 1, 2, 7, 4}, {"abc", 2, 0, -1, 4}, {"abc", 3, 0, -1, 4}, {"ab\x00cd", 0, 2, 7, 3}, {"ab\x00cd", 2, 0, -1, 3}, {"ab\x00cd", 3, 2, 7, 6}, {"ab\x00", 1, 0, -1, 3}, {"\x00", 0, 0, -1, 1},
		{long, 0, impl.MaxText, 7, impl.MaxText + 1}, {long, 1, impl.MaxText - 2, 7, impl.MaxText + 1}, {long, impl.MaxText, 0, -1, impl.MaxText + 1},
	} {
		if length, at, reach, code := impl.DfaRun(twoClasses(), x.s, x.from); length != x.length || at != x.at || reach != x.reach || code != impl.OK {
			t.Errorf("a text of %d bytes from %d on: %d, %d, %d, %d", len(x.s), x.from, length, at, reach, code)
		}
	}
	empty := impl.Dfa{Class: make([]int, 256), Next: [][]int{{-1}}, Accept: []int{3}}
	if length, at, reach, code := impl.DfaRun(empty, "ab", 1); length != 0 || at != 3 || reach != 2 || code != impl.OK {
		t.Error("the empty text that is read", length, at, reach, code)
	}
}

func TestRunsOfNoMachine(t *testing.T) {
	changed := func(change func(d *impl.Dfa)) impl.Dfa {
		d := twoClasses()
		change(&d)
		return d
	}
	states := func(n int, classes int) impl.Dfa {
		d := impl.Dfa{Class: make([]int, 256), Accept: make([]int, n)}
		for range n {
			d.Next = append(d.Next, make([]int, classes))
		}
		return d
	}
	for name, d := range map[string]impl.Dfa{
		"nothing": {}, "no states": {Class: make([]int, 256)}, "no classes": states(1, 0), "too many classes": states(1, 257), "too many states": states(impl.MaxSets+2, 1),
		"a class too few":   changed(func(d *impl.Dfa) { d.Class = d.Class[:255] }),
		"a class too many":  changed(func(d *impl.Dfa) { d.Class = append(d.Class, 0) }),
		"a class too high":  changed(func(d *impl.Dfa) { d.Class[255] = 2 }),
		"a class too low":   changed(func(d *impl.Dfa) { d.Class[0] = -1 }),
		"a long row":        changed(func(d *impl.Dfa) { d.Next[2] = append(d.Next[2], 0) }),
		"a short row":       changed(func(d *impl.Dfa) { d.Next[1] = d.Next[1][:1] }),
		"a short first row": changed(func(d *impl.Dfa) { d.Next[0] = d.Next[0][:1] }),
		"a next too high":   changed(func(d *impl.Dfa) { d.Next[2][1] = 3 }),
		"a next too low":    changed(func(d *impl.Dfa) { d.Next[2][0] = -2 }),
		"an accept missing": changed(func(d *impl.Dfa) { d.Accept = d.Accept[:2] }),
		"an accept more":    changed(func(d *impl.Dfa) { d.Accept = append(d.Accept, -1) }),
		"an accept too low": changed(func(d *impl.Dfa) { d.Accept[1] = -2 }),
	} {
		if length, at, reach, code := impl.DfaRun(d, "ab", 0); length != 0 || at != 0 || reach != 0 || code != impl.ErrBad {
			t.Errorf("%s: %d, %d, %d, %d", name, length, at, reach, code)
		}
	}
	for name, d := range map[string]impl.Dfa{"most states": states(impl.MaxSets+1, 1), "most classes": states(1, 256), "a high accept": changed(func(d *impl.Dfa) { d.Accept[2] = 1 << 40 })} {
		if length, _, reach, code := impl.DfaRun(d, "ab", 0); length != 2 || reach != 3 || code != impl.OK {
			t.Errorf("%s: %d, %d, %d", name, length, reach, code)
		}
	}
	for _, x := range []struct {
		s    string
		from int
	}{{"ab", 3}, {"ab", -1}, {"", 1}, {"ab", -1 << 63}, {"ab", 1<<63 - 1}, {strings.Repeat("a", impl.MaxText+1), 0}} {
		if length, at, reach, code := impl.DfaRun(twoClasses(), x.s, x.from); length != 0 || at != 0 || reach != 0 || code != impl.ErrBad {
			t.Errorf("%d bytes from %d on: %d, %d, %d, %d", len(x.s), x.from, length, at, reach, code)
		}
	}
}
