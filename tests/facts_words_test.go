package tests

import (
	"math/rand"
	"slices"
	"strings"
	"testing"

	"loop.example/g00037/impl"
)

// foundIn are the words of a symbol as WordsOf tells them.
func foundIn(made ways, all []string) []impl.Found {
	var list []impl.Found
	for _, word := range all {
		if made[word] > 0 {
			list = append(list, impl.Found{Word: termList(word), Count: made[word]})
		}
	}
	return list
}

func TestWordsThatAreFoundAreThoseWithDerivations(t *testing.T) {
	checked, found := 0, 0
	for i, b := range manyRules(5000) {
		if isCyclic(b) {
			continue
		}
		checked++
		most := i % 5
		all := allWords(len(b.Terms), most)
		made := waysOf(t, b, most, impl.MaxCount)
		list := mustWords(t, b, most)
		if want := foundIn(made[len(b.Terms)], all); !sameFound(list, want) {
			t.Fatalf("%s: words up to %d:\n%v\n%v", shownRules(b), most, list, want)
		}
		for non := range b.Nons {
			for _, word := range all {
				wantCount(t, b, non, termList(word), made[len(b.Terms)+non][word])
			}
		}
		asThePromiseSays(t, b, list)
		found += len(list)
	}
	if checked < 2000 || found < 4000 {
		t.Error(checked, found)
	}
}

// asThePromiseSays holds words of the start against what else is said of it.
func asThePromiseSays(t *testing.T, b impl.Bnf, list []impl.Found) {
	t.Helper()
	f := mustFacts(t, b)
	for _, found := range list {
		if found.Count < 1 {
			t.Fatalf("%s: %v", shownRules(b), found)
		}
		wantCount(t, b, 0, found.Word, found.Count)
		if len(found.Word) < f.Least[0] || len(found.Word) == 0 && !f.Null[0] {
			t.Fatalf("%s: %v is too short: %v", shownRules(b), found.Word, f)
		}
		if len(found.Word) > 0 && !slices.Contains(f.First[0], found.Word[0]) {
			t.Fatalf("%s: %v begins otherwise: %v", shownRules(b), found.Word, f)
		}
	}
	word, code := impl.Shortest(b, 0)
	if len(list) > 0 && (code != impl.OK || !slices.Equal(word, list[0].Word)) {
		t.Fatalf("%s: Shortest %v, code %d; words %v", shownRules(b), word, code, list)
	}
	if !f.Makes[0] && (len(list) > 0 || code != impl.ErrNone) {
		t.Fatalf("%s: %v of what makes nothing", shownRules(b), list)
	}
}

// The rules of languages are plain ones, too.
func TestWordsOfLanguages(t *testing.T) {
	checked := 0
	for _, m := range someModels(600, true) {
		b, code := impl.Lower(m.grammar())
		if code != impl.OK || len(b.Terms) > 5 || len(b.Nons) > 8 || isCyclic(b) {
			continue
		}
		checked++
		list := mustWords(t, b, shortWord)
		if want := foundIn(waysOf(t, b, shortWord, impl.MaxCount)[len(b.Terms)], allWords(len(b.Terms), shortWord)); !sameFound(list, want) {
			t.Fatalf("%s:\n%v\n%v", m.shown(), list, want)
		}
		asThePromiseSays(t, b, list)
	}
	if checked < 50 {
		t.Error(checked)
	}
}

func TestWordsUpToTheLongest(t *testing.T) {
	for _, b := range []impl.Bnf{
		plain("ab", "S", "S=aSb", "S=", "S=SS"),
		plain("ab", "SA", "S=ASb", "S=a", "A=", "A=b"),
		plain("ab", "SA", "S=SAb", "S=aA", "A=a", "A=AA"),
		plain("ab", "SAB", "S=AB", "A=Aa", "A=", "B=bB", "B="),
		plain("ab", "SA", "S=aSa", "S=bSb", "S=A", "A=a", "A=b", "A="),
		plain("a", "SAB", "S=AAAAAAAAAAAA", "A=a", "A=B", "B="),
	} {
		if isCyclic(b) {
			noWords(t, b, impl.MaxShort, impl.ErrLoop)
			continue
		}
		all := allWords(len(b.Terms), impl.MaxShort)
		list := mustWords(t, b, impl.MaxShort)
		if want := foundIn(waysOf(t, b, impl.MaxShort, impl.MaxCount)[len(b.Terms)], all); !sameFound(list, want) {
			t.Errorf("%s:\n%v\n%v", shownRules(b), list, want)
		}
		asThePromiseSays(t, b, list)
		for most := range impl.MaxShort {
			some := mustWords(t, b, most)
			if !sameFound(some, list[:len(some)]) || len(some) < len(list) && len(list[len(some)].Word) <= most {
				t.Errorf("%s: up to %d: %v", shownRules(b), most, some)
			}
		}
		noWords(t, b, impl.MaxShort+1, impl.ErrBad)
	}
}

func TestWordsOfNothing(t *testing.T) {
	for _, most := range []int{0, 1, impl.MaxShort} {
		for _, b := range []impl.Bnf{
			plain("a", "S"), plain("", "S"), plain("a", "SA", "S=A"), plain("a", "SA", "S=SaA", "A=Sa"), plain("a", "SA", "S=SAa", "A=a", "A="),
		} {
			noWords(t, b, most, impl.OK)
			noShortest(t, b, 0, impl.ErrNone)
			wantCount(t, b, 0, nil, 0)
		}
		b := plain("a", "SAB", "S=AB", "S=BBB", "A=B", "B=")
		if list := mustWords(t, b, most); !sameFound(list, []impl.Found{{Count: 2}}) {
			t.Error(list)
		}
		wantShortest(t, b, 0, nil)
		wantCount(t, b, 0, nil, 2)
	}
}

// fullRules has 24 times 25 words of two terminals that A makes.
func fullRules(more ...string) impl.Bnf {
	letters := manyLetters(50)
	prods := slices.Concat(oneEach("C", letters[:24]), oneEach("D", letters[24:49]), []string{"A=CD"})
	return plain(letters, "SABCD", slices.Concat(prods, more)...)
}

func TestAsManyWordsOfOneLength(t *testing.T) {
	first, last := manyLetters(50)[:1], manyLetters(50)[49:]
	list := mustWords(t, fullRules("S=A"), 2)
	if len(list) != impl.MaxFound || !slices.IsSortedFunc(list, func(x, y impl.Found) int { return slices.Compare(x.Word, y.Word) }) {
		t.Error(len(list))
	}
	// In more ways, with others of another length, and longer ones, they are not too many.
	for name, b := range map[string]impl.Bnf{
		"not the start's":            fullRules("S=" + first),
		"in more ways":               fullRules("S=A", "S=CD", "A=CD"),
		"of another length":          fullRules("S=A", "S="+last, "S=", "S=C"),
		"one longer":                 fullRules("S=A", "S="+last+last+last, "B=A"+last, "B="+last+last+last),
		"beside what makes nothing":  fullRules("S=BCCD", "S=CCBD", "S=CCDDB", "B=B"+first),
		"beside what makes long":     fullRules("S=BCCD", "S=CDB"+last, "B="+strings.Repeat(last, 6)),
		"beside a longer word":       fullRules("S="+last+"CC", "S=CC"+last),
		"behind what is longer also": fullRules("S=BCC", "B="+strings.Repeat(last, 8), "B="+strings.Repeat(last, 7)),
	} {
		if _, code := impl.WordsOf(b, 2); code != impl.OK {
			t.Errorf("%s: code %d", name, code)
		}
	}
	for name, b := range map[string]impl.Bnf{
		"one more":                 fullRules("S=A", "S="+last+last),
		"one more of another Non":  fullRules("S="+first, "A="+last+last),
		"one more in the last one": fullRules("S="+first, "B=A", "B="+last+last),
		"with a third":             fullRules("S=A", "S=DD"),
		"where nothing is beside":  fullRules("S=A", "B=SDDS", "S="),
	} {
		noWords(t, b, 2, impl.ErrFull)
		if _, code := impl.WordsOf(b, 1); code != impl.OK {
			t.Errorf("%s: one terminal: code %d", name, code)
		}
	}
}

func TestTooManyLongWords(t *testing.T) {
	first, last := manyLetters(50)[:1], manyLetters(50)[49:]
	long := strings.Repeat(first, 5)
	b := fullRules("S=A"+long, "B=CCD")
	noWords(t, b, 3, impl.ErrFull)
	b = fullRules("S=A"+long, "S=B"+long, "B="+last+last)
	if list := mustWords(t, b, 6); len(list) != 0 {
		t.Error(list)
	}
	noWords(t, b, 7, impl.ErrFull)
	noWords(t, b, impl.MaxShort, impl.ErrFull)
	if list := mustWords(t, fullRules("S=A"+long, "S=B"+long+first, "B="+last+last), impl.MaxShort); len(list) != impl.MaxFound+1 {
		t.Error(len(list))
	}
}

// Which rules have too many words is found out without any of the program's ways.
func TestManyWordsOfManyRules(t *testing.T) {
	r := rand.New(rand.NewSource(8))
	full, fits := 0, 0
	for range 200 {
		b := someRules(r, 8, 3)
		some := len(b.Terms) + r.Intn(len(b.Nons))
		for term := range r.Intn(len(b.Terms) + 1) {
			b.Prods = append(b.Prods, impl.Prod{Left: some, Right: []int{term}})
		}
		if r.Intn(4) == 0 {
			b.Prods = append(b.Prods, impl.Prod{Left: len(b.Terms) + r.Intn(len(b.Nons)), Right: slices.Repeat([]int{some}, 4)})
		}
		if isCyclic(b) {
			continue
		}
		made := waysOf(t, b, 4, impl.MaxCount)
		if tooMany(made, 4) {
			full++
			noWords(t, b, 4, impl.ErrFull)
			continue
		}
		fits++
		list := mustWords(t, b, 4)
		if want := foundIn(made[len(b.Terms)], allWords(len(b.Terms), 4)); !sameFound(list, want) {
			t.Fatalf("%s:\n%v\n%v", shownRules(b), list, want)
		}
	}
	if full < 8 || fits < 80 {
		t.Error(full, fits)
	}
}

func tooMany(made []ways, most int) bool {
	for _, words := range made {
		counts := make([]int, most+1)
		for word := range words {
			counts[len(word)]++
		}
		if slices.Max(counts) > impl.MaxFound {
			return true
		}
	}
	return false
}

func TestShortestOfManyRules(t *testing.T) {
	checked := 0
	for _, b := range manyRules(4000) {
		made := waysOf(t, b, 5, 1)
		length := shortestLengths(b)
		for non := range b.Nons {
			switch symbol := len(b.Terms) + non; {
			case length[symbol] < 0:
				noShortest(t, b, non, impl.ErrNone)
			case length[symbol] <= 5:
				checked++
				want := ""
				for _, word := range allWords(len(b.Terms), 5) {
					if made[symbol][word] > 0 {
						want = word
						break
					}
				}
				wantShortest(t, b, non, termList(want))
			}
		}
	}
	if checked < 1000 {
		t.Error(checked)
	}
}

func TestShortestByHand(t *testing.T) {
	for name, test := range map[string]struct {
		rules impl.Bnf
		want  []int
	}{
		"the shorter one is not less": {plain("ab", "S", "S=aa", "S=b"), []int{1}},
		"the first one is not less":   {plain("ab", "S", "S=ba", "S=ab"), []int{0, 1}},
		"less by its last":            {plain("abc", "SA", "S=aAb", "A=c", "A=b", "S=aac"), []int{0, 0, 2}},
		"less by way of others":       {plain("ab", "SABC", "S=b", "S=A", "A=B", "B=C", "C=a", "C=S"), []int{0}},
		"less beside empty words":     {plain("ab", "SAB", "S=ABb", "A=B", "B=A", "B=", "S=aBBA", "A=S"), []int{0}},
		"round and round":             {plain("abc", "SABC", "C=c", "B=C", "A=B", "S=A", "C=b", "C=S", "B=a"), []int{0}},
		"longer ones do not count":    {plain("abc", "SA", "S=Ac", "A=cc", "A=b", "S=Aaa", "A=aaa"), []int{1, 2}},
		"one makes nothing":           {plain("ab", "SA", "S=A", "S=b", "A=aA"), []int{1}},
	} {
		if word, code := impl.Shortest(test.rules, 0); !slices.Equal(word, test.want) || code != impl.OK {
			t.Errorf("%s: %v, code %d", name, word, code)
		}
	}
}

func TestShortestUpToTheLongest(t *testing.T) {
	for _, n := range []int{1, 99, impl.MaxShortest - 1, impl.MaxShortest} {
		wantShortest(t, longRules(n), 0, make([]int, n))
	}
	for _, n := range []int{impl.MaxShortest + 1, impl.MaxLong - 1, impl.MaxLong, impl.MaxLong + 1, 123456789} {
		b := longRules(n)
		noShortest(t, b, 0, impl.ErrFull)
		noShortest(t, b, len(b.Nons), impl.ErrPlace)
		// Another one of the same rules is short enough.
		wantShortest(t, b, 1, make([]int, 10))
	}
}

func TestCountsUpToTheMost(t *testing.T) {
	letters := manyLetters(5)
	// 27 * 37 * 7 * 11 * 13 ways are one less than MaxCount.
	prods := slices.Concat(slices.Repeat([]string{"A=a"}, 27), slices.Repeat([]string{"B=b"}, 37),
		slices.Repeat([]string{"C=c"}, 7), slices.Repeat([]string{"D=d"}, 11), slices.Repeat([]string{"E=e"}, 13), []string{"S=ABCDE"})
	word := []int{0, 1, 2, 3, 4}
	for more, want := range []int{impl.MaxCount - 1, impl.MaxCount, impl.MaxCount, impl.MaxCount} {
		b := plain(letters, "SABCDE", slices.Concat(prods, slices.Repeat([]string{"S=" + letters}, more))...)
		wantCount(t, b, 0, word, want)
		if list := mustWords(t, b, 5); !sameFound(list, []impl.Found{{Word: word, Count: want}}) {
			t.Error(more, list)
		}
		wantCount(t, b, 0, word[:4], 0)
	}
}

func TestCountsThatAreFarTooHigh(t *testing.T) {
	// The empty word in 10 ways, then in 10 to the 12, and to the 144.
	b := plain("ab", "SABC", slices.Concat([]string{"S=AAAAAAAAAAAA", "A=BBBBBBBBBBBB", "C=SSSSSSSSSSSb", "C=Ca"}, slices.Repeat([]string{"B="}, 10))...)
	wantCount(t, b, 2, nil, 10)
	wantCount(t, b, 1, nil, impl.MaxCount)
	wantCount(t, b, 0, nil, impl.MaxCount)
	wantCount(t, b, 3, []int{1, 0, 0}, impl.MaxCount)
	wantCount(t, b, 3, []int{0, 1}, 0)
	wantCount(t, b, 0, []int{0}, 0)
	if list := mustWords(t, b, impl.MaxShort); !sameFound(list, []impl.Found{{Count: impl.MaxCount}}) {
		t.Error(list)
	}
}

func TestCountsByHand(t *testing.T) {
	pairs := plain("a", "S", "S=SS", "S=a")
	catalan := 1
	for n := 1; n <= impl.MaxWord; n++ {
		wantCount(t, pairs, 0, make([]int, n), min(catalan, impl.MaxCount))
		if catalan < impl.MaxCount {
			catalan = catalan * 2 * (2*n - 1) / (n + 1)
		}
	}
	noCount(t, pairs, 0, make([]int, impl.MaxWord+1), impl.ErrBad)
	// One way each: at the left, at the right, and around.
	for _, b := range []impl.Bnf{plain("a", "S", "S=Sa", "S="), plain("a", "S", "S=aS", "S="), plain("a", "SA", "S=aSa", "S=A", "A=", "A=a")} {
		for n := range impl.MaxWord + 1 {
			wantCount(t, b, 0, make([]int, n), 1)
		}
	}
	// What stands ahead may be empty: as many ways as there are places for it to be.
	hidden := plain("ab", "SA", "S=ASb", "S=a", "A=", "A=b")
	wantCount(t, hidden, 0, []int{0, 1, 1}, 1)
	wantCount(t, hidden, 0, []int{1, 0, 1, 1, 1}, 3)
	wantCount(t, hidden, 1, []int{1}, 1)
	wantCount(t, hidden, 1, nil, 1)
	// Prods that are alike are different ways.
	wantCount(t, plain("a", "S", "S=a", "S=a", "S=a"), 0, []int{0}, 3)
}
