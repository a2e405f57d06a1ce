package tests

import (
	"math"
	"math/rand"
	"runtime"
	"slices"
	"strings"
	"sync"
	"testing"
	"time"

	"loop.example/g00037/impl"
)

// wordLexer has words that look one byte further, and Num looks two.
func wordLexer() []impl.Rule {
	return []impl.Rule{{Name: "Id", Rx: "[a-z]+", In: "main"}, {Name: "Num", Rx: "[0-9]+(\\.[0-9]+)?", In: "main"}, {Name: "Ws", Rx: " +", In: "main", Skip: true}}
}

// pieceLexer cuts one byte at a time, but for one word that it looks far ahead for.
func pieceLexer() []impl.Rule {
	return []impl.Rule{{Name: "One", Rx: "[ab]", In: "main"}, {Name: "Long", Rx: "aaaab", In: "main"}}
}

// twinLexer has the same words inside < > as outside.
func twinLexer() []impl.Rule {
	return []impl.Rule{
		{Name: "A", Rx: "a+", In: "main"}, {Name: "B", Rx: "b", In: "main"}, {Name: "In", Rx: "<", In: "main", To: "x"}, {Name: "Out", Rx: ">", In: "main", To: "pop"},
		{Name: "A", Rx: "a+", In: "x"}, {Name: "B", Rx: "b", In: "x"}, {Name: "In", Rx: "<", In: "x", To: "x"}, {Name: "Out", Rx: ">", In: "x", To: "pop"},
	}
}

func TestTextsBehindAnEdit(t *testing.T) {
	for _, text := range []string{"", "a", "ab", "abcd", "\x00\xff\n\xc3"} {
		for at := -2; at <= len(text)+2; at++ {
			for del := -2; del <= len(text)+2; del++ {
				for _, ins := range []string{"", "x", "xy", "abcd", "\xff\x00"} {
					e := edit(at, del, ins)
					s, code := impl.Edited(text, e)
					if want, wantCode := editedBy(text, e); s != want || code != wantCode {
						t.Errorf("Edited(%q, %v) is %q, %d and should be %q, %d", text, e, s, code, want, wantCode)
					}
				}
			}
		}
	}
	for _, x := range []struct {
		e    impl.TextEdit
		want string
	}{
		{edit(0, 0, "x"), "xabcd"}, {edit(4, 0, "x"), "abcdx"}, {edit(0, 4, ""), ""}, {edit(0, 4, "xyz"), "xyz"}, {edit(1, 2, "z"), "azd"}, {edit(2, 0, ""), "abcd"}, {edit(1, 2, "bc"), "abcd"}, {edit(3, 1, "zzzz"), "abczzzz"}, {edit(0, 1, ""), "bcd"},
	} {
		if s, code := impl.Edited("abcd", x.e); s != x.want || code != impl.OK {
			t.Error(x.e, s, code)
		}
	}
}

func TestEditsThatDoNotFit(t *testing.T) {
	for _, e := range []impl.TextEdit{
		edit(-1, 0, ""), edit(-1, 1, ""), edit(5, 0, ""), edit(5, -1, ""), edit(0, -1, ""), edit(0, 5, ""), edit(4, 1, ""), edit(2, 3, "x"),
		edit(math.MinInt, 0, ""), edit(math.MaxInt, 0, ""), edit(0, math.MinInt, ""), edit(0, math.MaxInt, ""), edit(1, math.MaxInt, ""), edit(4, math.MaxInt-3, ""), edit(math.MaxInt, math.MaxInt, ""), edit(math.MinInt, math.MaxInt, ""), edit(math.MinInt, math.MinInt, "x"), edit(math.MaxInt, math.MinInt, ""),
	} {
		for _, ins := range []string{e.Ins, strings.Repeat("x", impl.MaxText+1)} {
			e.Ins = ins
			if s, code := impl.Edited("abcd", e); s != "" || code != impl.ErrBad {
				t.Error(e.At, e.Del, s, code)
			}
			noRelex(t, wordLexer(), "abcd", e, impl.ErrBad, 0)
		}
	}
}

func TestLongestTextsThatAreEdited(t *testing.T) {
	most, more := strings.Repeat("a", impl.MaxText), strings.Repeat("a", impl.MaxText+1)
	half := strings.Repeat("b", impl.MaxText/2)
	for _, x := range []struct {
		text string
		e    impl.TextEdit
		code int
	}{
		{most, edit(0, 0, ""), impl.OK}, {most, edit(impl.MaxText, 0, ""), impl.OK}, {most, edit(0, impl.MaxText, ""), impl.OK}, {most, edit(7, 3, "xyz"), impl.OK}, {most, edit(0, impl.MaxText, most), impl.OK}, {most, edit(impl.MaxText-1, 1, "x"), impl.OK},
		{most, edit(0, 0, "x"), impl.ErrFull}, {most, edit(impl.MaxText, 0, "x"), impl.ErrFull}, {most, edit(7, 3, "wxyz"), impl.ErrFull}, {most, edit(0, impl.MaxText, more), impl.ErrFull}, {most, edit(0, 0, most), impl.ErrFull},
		{most, edit(impl.MaxText+1, 0, ""), impl.ErrBad}, {most, edit(1, impl.MaxText, ""), impl.ErrBad}, {most, edit(0, impl.MaxText+1, ""), impl.ErrBad}, {most, edit(-1, 0, ""), impl.ErrBad},
		{more, edit(0, 0, ""), impl.ErrBad}, {more, edit(0, 1, ""), impl.ErrBad}, {more, edit(0, impl.MaxText+1, ""), impl.ErrBad}, {more, edit(0, 0, "x"), impl.ErrBad},
		{"", edit(0, 0, most), impl.OK}, {"", edit(0, 0, more), impl.ErrFull}, {half, edit(9, 0, half), impl.OK}, {half, edit(9, 0, half+"b"), impl.ErrFull}, {half, edit(9, 1, half+"b"), impl.OK}, {half, edit(9, 1, half+"bb"), impl.ErrFull},
	} {
		s, code := impl.Edited(x.text, x.e)
		if want, _ := editedBy(x.text, x.e); s != want || code != x.code {
			t.Errorf("Edited of %d bytes, %d, %d, %d more: %d bytes, %d", len(x.text), x.e.At, x.e.Del, len(x.e.Ins), len(s), code)
		}
		if x.code != impl.OK {
			noRelex(t, wordLexer(), x.text, x.e, x.code, 0)
		} else if _, _, code := checkRelex(t, wordLexer(), x.text, x.e); code != impl.OK {
			t.Error(x.e.At, x.e.Del, code)
		}
	}
}

// As many words as there can be, all but those that look over the edit kept.
func TestManyWordsAreKept(t *testing.T) {
	text := strings.Repeat("b", impl.MaxText)
	wantKept(t, pieceLexer(), text, edit(2000, 0, ""), impl.MaxText, 1999, 2000)
	wantKept(t, pieceLexer(), text, edit(2000, 1, "a"), impl.MaxText, 1999, 1999)
	wantKept(t, pieceLexer(), text, edit(0, 1, "a"), impl.MaxText, 0, impl.MaxText-1)
	wantKept(t, pieceLexer(), text, edit(impl.MaxText, 0, ""), impl.MaxText, impl.MaxText-1, 0)
	wantKept(t, pieceLexer(), text, edit(0, impl.MaxText, ""), 0, 0, 0)
	wantKept(t, pieceLexer(), text, edit(0, impl.MaxText, text), impl.MaxText, 0, 0)
	wantKept(t, pieceLexer(), "", edit(0, 0, text), impl.MaxText, 0, 0)
}

// keepsOld is promise 14, by the old words and the new ones alone.
func keepsOld(t *testing.T, rules []impl.Rule, text string, e impl.TextEdit) impl.Kept {
	t.Helper()
	words, kept, code := checkRelex(t, rules, text, e)
	if code != impl.OK {
		return impl.Kept{}
	}
	changed, _ := impl.Edited(text, e)
	old := checkWords(t, rules, text)
	if !slices.Equal(words, checkWords(t, rules, changed)) {
		t.Fatalf("%q, %v: not the words of the new text", text, e)
	}
	if kept.Front < 0 || kept.Back < 0 || kept.Front+kept.Back > min(len(old), len(words)) {
		t.Fatalf("%q, %v: %v of %d words that become %d", text, e, kept, len(old), len(words))
	}
	if !slices.Equal(words[:kept.Front], old[:kept.Front]) {
		t.Fatalf("%q, %v: %v and %v are not alike in front", text, e, old, words)
	}
	for i := 1; i <= kept.Back; i++ {
		was, is := old[len(old)-i], words[len(words)-i]
		was.At += len(e.Ins) - e.Del
		was.Reach += len(e.Ins) - e.Del
		if was != is {
			t.Fatalf("%q, %v: %v and %v are not alike at the back", text, e, old, words)
		}
	}
	return kept
}

func TestWordsThatStayAreTheOldOnes(t *testing.T) {
	r := rand.New(rand.NewSource(91))
	front, back, both := 0, 0, 0
	for range 150 {
		rules := someLexer(r)
		for range 12 {
			text := someText(r, r.Intn(16))
			at := r.Intn(len(text) + 1)
			kept := keepsOld(t, rules, text, edit(at, r.Intn(min(4, len(text)-at+1)), someText(r, r.Intn(4))))
			front += oneFor(kept.Front > 0)
			back += oneFor(kept.Back > 0)
			both += oneFor(kept.Front > 0 && kept.Back > 0)
		}
	}
	if front < 100 || back < 200 || both < 50 {
		t.Errorf("words were kept in front %d times, at the back %d times, in both places %d times", front, back, both)
	}
}

func TestWordsOfStringsThatAreEdited(t *testing.T) {
	r := rand.New(rand.NewSource(92))
	codes := map[int]int{}
	for range 1500 {
		var text strings.Builder
		for r.Intn(8) > 0 {
			text.WriteString(oneOf(r, "if", "ifa ", "1.", "12.5", " \n", "\"a$b\"", "\"${x}\"", "q\"\"", "\"${\"${1}\"}\"", " "))
		}
		at := r.Intn(text.Len()+3) - 1
		e := edit(at, r.Intn(5)-1+r.Intn(2), oneOf(r, "", "", "\"", "${", "}", "a", " ", "1", "?", "\"\"", "\"}"))
		_, _, code := checkRelex(t, stringLexer(), text.String(), e)
		codes[code]++
		keepsOld(t, stringLexer(), text.String(), e)
	}
	if codes[impl.OK] < 200 || codes[impl.ErrText] < 200 || codes[impl.ErrBad] < 50 {
		t.Error(codes)
	}
}

func TestAllShortEdits(t *testing.T) {
	for _, x := range []struct {
		rules  []impl.Rule
		bytes  string
		length int
		more   int
	}{
		{pieceLexer(), "ab", 4, 2}, {wordLexer(), "a 1.", 3, 1}, {twinLexer(), "ab<>", 3, 1}, {[]impl.Rule{{Name: "A", Rx: "a", In: "main"}, {Name: "B", Rx: "ab*c", In: "main"}, {Name: "C", Rx: "b|c", In: "main"}}, "abc", 3, 1},
	} {
		lex := lexerOf(x.rules).remembering()
		for _, text := range textsOver(x.bytes, x.length) {
			for at := 0; at <= len(text); at++ {
				for del := 0; at+del <= len(text); del++ {
					for _, ins := range textsOver(x.bytes, x.more) {
						checkRelexBy(t, lex, x.rules, text, edit(at, del, ins))
					}
				}
			}
		}
	}
}

func TestEditingAndEditingBack(t *testing.T) {
	r := rand.New(rand.NewSource(99))
	right := 0
	for range 600 {
		rules, text := wordLexer(), ""
		for len(text) < 12 {
			text += oneOf(r, "a", "b", " ", "  ", "1", "23", "4.5", "c")
		}
		at := r.Intn(len(text) + 1)
		e := edit(at, r.Intn(len(text)-at+1), oneOf(r, "", "x", "7", ".", " ", "12 ab 3"))
		changed, code := impl.Edited(text, e)
		if again, back := impl.Edited(changed, undoing(text, e)); again != text || code != impl.OK || back != impl.OK {
			t.Fatalf("%q, %v, and back: %q, %d, %d", text, e, again, code, back)
		}
		old, _, code := checkRelex(t, rules, text, edit(at, 0, ""))
		if _, _, fault := checkRelex(t, rules, text, e); fault != impl.OK || code != impl.OK {
			continue
		}
		words, _, code := checkRelex(t, rules, changed, undoing(text, e))
		if !slices.Equal(words, old) || code != impl.OK {
			t.Fatalf("%q, %v, and back: %v, %d", text, e, words, code)
		}
		right++
	}
	if right < 300 {
		t.Errorf("only %d edits left words", right)
	}
}

func TestReachOfWordsInFront(t *testing.T) {
	// ab (reach 3), blank (4), 12 (6), blank (7), c (8)
	for at, front := range []int{0, 0, 0, 1, 2, 2, 3, 4} {
		back := []int{5, 4, 4, 3, 2, 2, 1, 0}[at]
		wantKept(t, wordLexer(), "ab 12 c", edit(at, 0, ""), 5, front, back)
	}
	// One whose Reach is just At stays, the next one does not.
	old := checkWords(t, wordLexer(), "a 1 b")
	if old[1].Reach != 3 || old[2].Reach != 4 {
		t.Fatal(old)
	}
	wantKept(t, wordLexer(), "a 1 b", edit(4, 1, "c"), 5, 3, 0)
	wantKept(t, wordLexer(), "a 1 b", edit(3, 1, "  "), 5, 2, 1)
	wantKept(t, wordLexer(), "a 1 b", edit(3, 1, ""), 4, 2, 1)
	// One that looked far, and those that it looked over.
	far := []impl.Rule{{Name: "A", Rx: "a", In: "main"}, {Name: "B", Rx: "b", In: "main"}, {Name: "C", Rx: "c", In: "main"}, {Name: "Far", Rx: "abbbbc", In: "main"}}
	if words := checkWords(t, far, "cabbbc"); words[0].Reach != 2 || words[1].Reach != 6 || words[2].Reach != 4 || words[5].Reach != 7 {
		t.Fatal(words)
	}
	wantKept(t, far, "cabbbc", edit(2, 0, ""), 6, 1, 4)
	wantKept(t, far, "cabbbc", edit(4, 0, ""), 6, 1, 2)
	wantKept(t, far, "cabbbc", edit(5, 0, ""), 6, 1, 1)
	wantKept(t, far, "cabbbc", edit(5, 0, "b"), 2, 1, 0)
	wantKept(t, far, "cabbba", edit(6, 0, ""), 6, 5, 0)
	wantKept(t, far, "cabbba", edit(6, 0, "b"), 7, 5, 0)
	wantKept(t, far, "cabbba", edit(5, 0, ""), 6, 1, 1)
	// Up to the first that looks too far, though the next one doesn't.
	wantKept(t, far, "abbb"+"aa", edit(4, 0, "a"), 7, 0, 2)
	wantKept(t, far, "abbb"+"aa", edit(5, 0, "b"), 7, 4, 1)
}

func TestWordsAtTheBack(t *testing.T) {
	// What leaves and comes is longer, as long and shorter.
	for _, ins := range []string{"x", "xy", "xyz", "xyzxyz"} {
		wantKept(t, wordLexer(), "ab cd ef 1", edit(3, 2, ins), 7, 1, 4)
	}
	wantKept(t, wordLexer(), "ab cd ef 1", edit(3, 2, ""), 5, 1, 3)
	wantKept(t, wordLexer(), "ab cd ef 1", edit(3, 3, ""), 5, 1, 3)
	// Those that begin at the end of what leaves, and one ahead of it.
	wantKept(t, pieceLexer(), "bbbb", edit(1, 2, "bb"), 4, 0, 1)
	wantKept(t, pieceLexer(), "bbbb", edit(1, 1, "b"), 4, 0, 2)
	wantKept(t, pieceLexer(), "bbbb", edit(1, 3, "bbb"), 4, 0, 0)
	wantKept(t, pieceLexer(), "bbbb", edit(2, 1, "b"), 4, 1, 1)
	wantKept(t, wordLexer(), "ab cd", edit(4, 1, "d"), 3, 2, 0)
	wantKept(t, wordLexer(), "ab cd", edit(3, 1, "c"), 3, 1, 0)
	wantKept(t, wordLexer(), "ab cd", edit(2, 1, " "), 3, 0, 1)
	// Where all are alike, none is counted for both.
	for del := range 5 {
		wantKept(t, pieceLexer(), "bbbbbbbb", edit(4, del, ""), 8-del, 3, 4-del)
	}
	wantKept(t, pieceLexer(), "bbbbbbbb", edit(0, 7, ""), 1, 0, 1)
	wantKept(t, pieceLexer(), "bbbbbbbb", edit(1, 7, ""), 1, 0, 0)
	wantKept(t, pieceLexer(), "bbbbbbbb", edit(2, 6, ""), 2, 1, 0)
	wantKept(t, pieceLexer(), "bb", edit(1, 0, "bbbb"), 6, 0, 1)
	// A word that is alike but cut at another place, or has become a part of one.
	wantKept(t, wordLexer(), "ab cd", edit(0, 3, ""), 1, 0, 1)
	wantKept(t, wordLexer(), "ab cd", edit(2, 1, ""), 1, 0, 0)
	wantKept(t, wordLexer(), "1 2", edit(1, 1, "."), 1, 0, 0)
	wantKept(t, wordLexer(), "1 2 3", edit(1, 1, "."), 3, 0, 2)
}

func TestNoWords(t *testing.T) {
	for _, rules := range [][]impl.Rule{nil, wordLexer(), twinLexer()} {
		wantKept(t, rules, "", edit(0, 0, ""), 0, 0, 0)
	}
	wantKept(t, wordLexer(), "", edit(0, 0, "ab c"), 3, 0, 0)
	wantKept(t, wordLexer(), "ab c", edit(0, 4, ""), 0, 0, 0)
	wantKept(t, wordLexer(), "ab", edit(0, 2, "ab"), 1, 0, 0)
	wantKept(t, wordLexer(), "ab", edit(0, 0, ""), 1, 0, 1)
	wantKept(t, wordLexer(), "ab", edit(2, 0, ""), 1, 0, 0)
	noRelex(t, nil, "", edit(0, 0, "a"), impl.ErrText, 0)
	noRelex(t, nil, "a", edit(0, 1, ""), impl.ErrText, 0)
	noRelex(t, nil, "", edit(1, 0, ""), impl.ErrBad, 0)
}

func TestModesBehindAnEdit(t *testing.T) {
	rules := twinLexer()
	// Alike but for their Modes.
	wantKept(t, rules, "baba", edit(0, 0, "<"), 5, 0, 0)
	wantKept(t, rules, "baba", edit(2, 0, "<"), 5, 1, 0)
	wantKept(t, rules, "<baba>", edit(0, 1, "<<"), 7, 0, 0)
	// The Modes come back to what they were.
	wantKept(t, rules, "baba", edit(0, 0, "<>"), 6, 0, 4)
	wantKept(t, rules, "ba<b>ba", edit(3, 1, "ab<>"), 10, 2, 3)
	wantKept(t, rules, "<b>b<b>", edit(2, 3, ""), 4, 1, 2)
	wantKept(t, rules, "<b>b<b>", edit(2, 1, ">"), 7, 1, 4)
	// From where on one bracket less has no mode, or one more.
	noRelex(t, rules, "<b>b<b>", edit(0, 1, ""), impl.ErrText, 1)
	noRelex(t, rules, "<b>b<b>", edit(4, 1, ""), impl.ErrText, 5)
	deepest := strings.Repeat("<", impl.MaxModes-1)
	wantKept(t, rules, deepest+"b", edit(3, 0, ""), impl.MaxModes, 2, impl.MaxModes-3)
	noRelex(t, rules, deepest+"b", edit(3, 0, "<"), impl.ErrText, impl.MaxModes-1)
	noRelex(t, rules, deepest+"<b", edit(3, 1, ""), impl.ErrText, impl.MaxModes-1)
	// The same text and Modes, but another Name or Skip.
	odd := []impl.Rule{{Name: "A", Rx: "a", In: "main"}, {Name: "In", Rx: "<", In: "main", To: "x"}, {Name: "B", Rx: "a", In: "x"}, {Name: "Jn", Rx: "-", In: "main", To: "y"}, {Name: "A", Rx: "a", In: "y", Skip: true}}
	wantKept(t, odd, "<aa", edit(0, 1, "-"), 3, 0, 0)
	wantKept(t, odd, "aaa", edit(0, 1, "-"), 3, 0, 0)
	wantKept(t, odd, "aaa", edit(0, 1, ""), 2, 0, 2)
}

func TestTextsWithoutWordsAroundAnEdit(t *testing.T) {
	rules := wordLexer()
	// In the old text: ahead of the edit, in it, and behind it.
	noRelex(t, rules, "?abc", edit(2, 1, "x"), impl.ErrText, 0)
	noRelex(t, rules, "a?c", edit(1, 1, ""), impl.ErrText, 1)
	noRelex(t, rules, "abc?", edit(0, 1, ""), impl.ErrText, 3)
	noRelex(t, rules, "abc?", edit(0, 4, ""), impl.ErrText, 3)
	noRelex(t, rules, "1.", edit(2, 0, "5"), impl.ErrText, 1)
	// In the new one: what came, what stood ahead of it and what stands behind it now.
	noRelex(t, rules, "abc", edit(1, 0, "?"), impl.ErrText, 1)
	noRelex(t, rules, "abc", edit(1, 1, "xx?"), impl.ErrText, 3)
	noRelex(t, rules, "abc", edit(3, 0, "??"), impl.ErrText, 3)
	noRelex(t, rules, "abc 1.5", edit(6, 1, ""), impl.ErrText, 5)
	noRelex(t, rules, "abc 1.5 d", edit(6, 1, "x"), impl.ErrText, 5)
	noRelex(t, rules, "abc 1.5", edit(4, 1, ""), impl.ErrText, 4)
	noRelex(t, rules, "abc 1.5", edit(4, 1, "xy"), impl.ErrText, 6)
}

func TestWhichFaultOfAnEditIsFirst(t *testing.T) {
	most, more := strings.Repeat("a", impl.MaxText), strings.Repeat("a", impl.MaxText+1)
	full := append(wordLexer(), chainRules("x", impl.MaxSets+1)...)
	for why, rule := range wrongRules() {
		wrong := append(wordLexer(), rule)
		for _, text := range []string{"", "a", "?", more} {
			for _, e := range []impl.TextEdit{{}, edit(0, 0, "a"), edit(-1, 0, ""), edit(0, 0, "?"), edit(0, 0, more)} {
				if words, kept, code, at := impl.Relex(wrong, text, e); len(words) != 0 || kept != (impl.Kept{}) || code != impl.ErrBad || at != 0 {
					t.Errorf("%s: %v, %v, %d, %d", why, words, kept, code, at)
				}
			}
		}
	}
	for _, e := range []impl.TextEdit{{}, edit(0, 0, "a"), edit(-1, 0, ""), edit(0, 0, "?"), edit(0, 0, more), edit(0, 9, "")} {
		noRelex(t, wordLexer(), more, e, impl.ErrBad, 0)
		noRelex(t, full, more, e, impl.ErrBad, 0)
		noRelex(t, full, "a", e, impl.ErrFull, 0)
		noRelex(t, full, "a?", e, impl.ErrFull, 0)
		noRelex(t, full, "", e, impl.ErrFull, 0)
		noRelex(t, wordLexer(), "a?", e, impl.ErrText, 1)
		noRelex(t, wordLexer(), most[1:]+"?", e, impl.ErrText, impl.MaxText-1)
	}
	noRelex(t, wordLexer(), "ab", edit(3, 0, "?"), impl.ErrBad, 0)
	noRelex(t, wordLexer(), "ab", edit(3, 0, more), impl.ErrBad, 0)
	noRelex(t, wordLexer(), "ab", edit(1, 0, "?"+more), impl.ErrFull, 0)
	noRelex(t, wordLexer(), most, edit(1, 0, "?"), impl.ErrFull, 0)
	noRelex(t, wordLexer(), most, edit(1, 1, "?"), impl.ErrText, 1)
}

func TestRelexKeepsAndSharesNothing(t *testing.T) {
	rules := append(wordLexer(), impl.Rule{Name: "Spare"})
	given := rules[:len(rules)-1]
	words, _, _, _ := impl.Relex(given, "ab 12 c", edit(3, 1, "x9 "))
	want := slices.Clone(words)
	words = words[:cap(words)]
	for i := range words {
		words[i] = impl.Word{Name: "spoilt"}
	}
	again, _, _ := checkRelex(t, given, "ab 12 c", edit(3, 1, "x9 "))
	if !slices.Equal(again, want) {
		t.Error("two answers share memory")
	}
	if !slices.Equal(rules, append(wordLexer(), impl.Rule{Name: "Spare"})) {
		t.Error("an argument was written to")
	}
}

// Many at once, also with texts that break off: each answers as it does alone, and nothing runs on behind them.
func TestRelexManyAtOnce(t *testing.T) {
	before := runtime.NumGoroutine()
	text := strings.Repeat("ab 12 ", 200)
	var group sync.WaitGroup
	for i := range 8 {
		group.Go(func() {
			for n := range 25 {
				e := edit(i*100+n, n%4, oneOf(rand.New(rand.NewSource(int64(n))), "?", "x", "7", ""))
				words, kept, code, at := impl.Relex(wordLexer(), text, e)
				wantWords, want, wantCode, wantAt := relexed(lexerOf(wordLexer()), text, e)
				if !slices.Equal(words, wantWords) || kept != want || code != wantCode || at != wantAt {
					t.Errorf("%v: %v, %d, %d and should be %v, %d, %d", e, kept, code, at, want, wantCode, wantAt)
				}
			}
		})
	}
	group.Wait()
	for range 200 {
		if runtime.NumGoroutine() <= before {
			return
		}
		time.Sleep(10 * time.Millisecond)
	}
	t.Errorf("%d goroutines ahead, %d behind", before, runtime.NumGoroutine())
}
