package tests

import (
	"math"
	"math/rand"
	"slices"
	"strconv"
	"strings"
	"testing"

	"loop.example/g00037/impl"
)

// plain makes plain rules: each byte of terms and of nons is a symbol, and each of prods is its Left, a = and its Right.
func plain(terms string, nons string, prods ...string) impl.Bnf {
	b := impl.Bnf{Own: 1}
	for _, name := range strings.Split(terms, "") {
		b.Terms = append(b.Terms, impl.Term{Name: name})
	}
	b.Nons = strings.Split(nons, "")
	for _, text := range prods {
		left, right, _ := strings.Cut(text, "=")
		p := impl.Prod{Left: strings.Index(terms+nons, left)}
		for _, name := range strings.Split(right, "") {
			p.Right = append(p.Right, strings.Index(terms+nons, name))
		}
		b.Prods = append(b.Prods, p)
	}
	return b
}

// shownRules is for messages.
func shownRules(b impl.Bnf) string {
	s := strconv.Itoa(len(b.Terms)) + " terms, nons " + strings.Join(b.Nons, " ") + ":"
	for _, p := range b.Prods {
		s += " " + strconv.Itoa(p.Left) + "="
		for i, symbol := range p.Right {
			if i > 0 {
				s += ","
			}
			s += strconv.Itoa(symbol)
		}
	}
	return s
}

// someRules are small; with few Prods there are Nons that make nothing, and with short ones Cyclic rules.
func someRules(r *rand.Rand, terms int, longest int) impl.Bnf {
	b := plain("abcdefgh"[:terms], "SABC"[:1+r.Intn(4)])
	for n := r.Intn(5 * (len(b.Nons) + 1)); n > 0; n-- {
		p := impl.Prod{Left: terms + r.Intn(len(b.Nons))}
		for k := r.Intn(longest + 1); k > 0; k-- {
			if terms > 0 && r.Intn(5) < 3 {
				p.Right = append(p.Right, r.Intn(terms))
			} else {
				p.Right = append(p.Right, terms+r.Intn(len(b.Nons)))
			}
		}
		b.Prods = append(b.Prods, p)
	}
	return b
}

// manyRules are the same ones at each call.
func manyRules(n int) []impl.Bnf {
	r := rand.New(rand.NewSource(int64(n)))
	var list []impl.Bnf
	for i := range n {
		list = append(list, someRules(r, r.Intn(4), 1+i%4))
	}
	return list
}

// ways is words, with a byte for each terminal, and how many derivations each has.
type ways map[string]int

func (w ways) add(word string, n int, highest int) { w[word] = min(w[word]+n, highest) }

// waysOf is what each symbol makes, up to a length: the derivations of one height more, again and again, until there are no others. Counts end at highest; with 1 this comes to an end for Cyclic rules too.
func waysOf(t *testing.T, b impl.Bnf, most int, highest int) []ways {
	t.Helper()
	known := make([]ways, len(b.Terms)+len(b.Nons))
	for symbol := range known {
		known[symbol] = ways{}
		if symbol < len(b.Terms) && most > 0 {
			known[symbol] = ways{string([]byte{byte(symbol)}): 1}
		}
	}
	for range (most + 2) * (len(b.Nons) + 1) {
		higher := slices.Clone(known)
		for non := range b.Nons {
			higher[len(b.Terms)+non] = ways{}
		}
		for _, p := range b.Prods {
			for word, n := range madeBy(known, p.Right, most, highest) {
				higher[p.Left].add(word, n, highest)
			}
		}
		if slices.EqualFunc(known, higher, sameWays) {
			return known
		}
		known = higher
	}
	t.Fatalf("%s: derivations without end", shownRules(b))
	return nil
}

func madeBy(known []ways, right []int, most int, highest int) ways {
	made := ways{"": 1}
	for _, symbol := range right {
		next := ways{}
		for begin, n := range made {
			for end, m := range known[symbol] {
				if len(begin)+len(end) <= most {
					next.add(begin+end, n*m, highest)
				}
			}
		}
		made = next
	}
	return made
}

func sameWays(a ways, b ways) bool {
	if len(a) != len(b) {
		return false
	}
	for word, n := range a {
		if b[word] != n {
			return false
		}
	}
	return true
}

func termList(word string) []int {
	list := []int{}
	for _, b := range []byte(word) {
		list = append(list, int(b))
	}
	return list
}

// allWords are all lists of terminals up to a length, shorter ones first, of one length the least list first.
func allWords(terms int, most int) []string {
	words := []string{""}
	for from := 0; len(words[len(words)-1]) < most && terms > 0; {
		to := len(words)
		for _, word := range words[from:to] {
			for term := range terms {
				words = append(words, word+string([]byte{byte(term)}))
			}
		}
		from = to
	}
	return words
}

// shortestLengths settles one symbol after the other, the one with the shortest word first; -1 for those that make nothing.
func shortestLengths(b impl.Bnf) []float64 {
	length := make([]float64, len(b.Terms)+len(b.Nons))
	for symbol := range length {
		length[symbol] = -1
		if symbol < len(b.Terms) {
			length[symbol] = 1
		}
	}
	for {
		best, left := math.Inf(1), -1
		for _, p := range b.Prods {
			sum := 0.0
			for _, symbol := range p.Right {
				sum += length[symbol]
				if length[symbol] < 0 {
					sum = math.Inf(1)
				}
			}
			if length[p.Left] < 0 && sum < best {
				best, left = sum, p.Left
			}
		}
		if left < 0 {
			return length
		}
		length[left] = best
	}
}

// goesTo tells whether steps lead from one symbol to another.
func goesTo(steps map[int][]int, from int, to int) bool {
	met := map[int]bool{}
	var visit func(symbol int) bool
	visit = func(symbol int) bool {
		for _, next := range steps[symbol] {
			if next == to {
				return true
			}
			if !met[next] {
				met[next] = true
				if visit(next) {
					return true
				}
			}
		}
		return false
	}
	return visit(from)
}

// stepsOf goes from each Left to the symbols of Right that counts says count; it is told which stand ahead and which behind.
func stepsOf(b impl.Bnf, counts func(ahead []int, behind []int) bool) map[int][]int {
	steps := map[int][]int{}
	for _, p := range b.Prods {
		for i, symbol := range p.Right {
			if counts(p.Right[:i], p.Right[i+1:]) {
				steps[p.Left] = append(steps[p.Left], symbol)
			}
		}
	}
	return steps
}

// empties tells whether all of symbols make the empty word.
func empties(length []float64, symbols []int) bool {
	return !slices.ContainsFunc(symbols, func(symbol int) bool { return length[symbol] != 0 })
}

func isCyclic(b impl.Bnf) bool {
	length := shortestLengths(b)
	steps := stepsOf(b, func(ahead, behind []int) bool { return empties(length, ahead) && empties(length, behind) })
	for non := range b.Nons {
		if goesTo(steps, len(b.Terms)+non, len(b.Terms)+non) {
			return true
		}
	}
	return false
}

type termSet map[int]bool

func (s termSet) list() []int {
	list := []int{}
	for term := range s {
		list = append(list, term)
	}
	slices.Sort(list)
	return list
}

// firstsAndFollows grow as long as one of the document's sentences asks for one more.
func firstsAndFollows(b impl.Bnf) ([]termSet, []termSet) {
	length := shortestLengths(b)
	first, follow := make([]termSet, len(length)), make([]termSet, len(length))
	for symbol := range first {
		first[symbol], follow[symbol] = termSet{}, termSet{}
		if symbol < len(b.Terms) {
			first[symbol][symbol] = true
		}
	}
	follow[len(b.Terms)][len(b.Terms)] = true
	firstOf := func(symbols []int) []int {
		terms := termSet{}
		for i, symbol := range symbols {
			if empties(length, symbols[:i]) {
				for term := range first[symbol] {
					terms[term] = true
				}
			}
		}
		return terms.list()
	}
	for grown := true; grown; {
		grown = false
		put := func(set termSet, terms []int) {
			for _, term := range terms {
				grown = grown || !set[term]
				set[term] = true
			}
		}
		for _, p := range b.Prods {
			put(first[p.Left], firstOf(p.Right))
			for i, symbol := range p.Right {
				put(follow[symbol], firstOf(p.Right[i+1:]))
				if empties(length, p.Right[i+1:]) {
					put(follow[symbol], follow[p.Left].list())
				}
			}
		}
	}
	return first, follow
}

// factsBy is what FactsOf is to tell.
func factsBy(b impl.Bnf) impl.Facts {
	length := shortestLengths(b)
	first, follow := firstsAndFollows(b)
	all := stepsOf(b, func(ahead, behind []int) bool { return true })
	begins := stepsOf(b, func(ahead, behind []int) bool { return empties(length, ahead) })
	start := len(b.Terms)
	var f impl.Facts
	for symbol := start; symbol < len(length); symbol++ {
		f.Null = append(f.Null, length[symbol] == 0)
		f.Makes = append(f.Makes, length[symbol] >= 0)
		f.Reached = append(f.Reached, symbol == start || goesTo(all, start, symbol))
		f.LeftRec = append(f.LeftRec, goesTo(begins, symbol, symbol))
		f.Least = append(f.Least, int(min(length[symbol], impl.MaxLong)))
		f.First = append(f.First, first[symbol].list())
		f.Follow = append(f.Follow, follow[symbol].list())
	}
	return f
}

func sameFacts(a impl.Facts, b impl.Facts) bool {
	return slices.Equal(a.Null, b.Null) && slices.Equal(a.Makes, b.Makes) && slices.Equal(a.Reached, b.Reached) &&
		slices.Equal(a.LeftRec, b.LeftRec) && slices.Equal(a.Least, b.Least) &&
		slices.EqualFunc(a.First, b.First, slices.Equal[[]int]) && slices.EqualFunc(a.Follow, b.Follow, slices.Equal[[]int])
}

func sameFound(a []impl.Found, b []impl.Found) bool {
	return slices.EqualFunc(a, b, func(x, y impl.Found) bool { return x.Count == y.Count && slices.Equal(x.Word, y.Word) })
}

func mustFacts(t *testing.T, b impl.Bnf) impl.Facts {
	t.Helper()
	f, code := impl.FactsOf(b)
	if code != impl.OK {
		t.Fatalf("%s: FactsOf: code %d", shownRules(b), code)
	}
	return f
}

func mustWords(t *testing.T, b impl.Bnf, most int) []impl.Found {
	t.Helper()
	list, code := impl.WordsOf(b, most)
	if code != impl.OK {
		t.Fatalf("%s: WordsOf up to %d: code %d", shownRules(b), most, code)
	}
	return list
}

func wantCount(t *testing.T, b impl.Bnf, non int, word []int, want int) {
	t.Helper()
	if n, code := impl.Count(b, non, word); n != want || code != impl.OK {
		t.Errorf("%s: Count by %d of %v: %d, code %d, and should be %d", shownRules(b), non, word, n, code, want)
	}
}

func noCount(t *testing.T, b impl.Bnf, non int, word []int, want int) {
	t.Helper()
	if n, code := impl.Count(b, non, word); n != 0 || code != want {
		t.Errorf("%s: Count by %d of %v: %d, code %d, and should be code %d", shownRules(b), non, word, n, code, want)
	}
}

func noWords(t *testing.T, b impl.Bnf, most int, want int) {
	t.Helper()
	if list, code := impl.WordsOf(b, most); len(list) != 0 || code != want {
		t.Errorf("%s: WordsOf up to %d: %v, code %d, and should be code %d", shownRules(b), most, list, code, want)
	}
}

func wantShortest(t *testing.T, b impl.Bnf, non int, want []int) {
	t.Helper()
	if word, code := impl.Shortest(b, non); !slices.Equal(word, want) || code != impl.OK {
		t.Errorf("%s: Shortest by %d: %v, code %d, and should be %v", shownRules(b), non, word, code, want)
	}
}

func noShortest(t *testing.T, b impl.Bnf, non int, want int) {
	t.Helper()
	if word, code := impl.Shortest(b, non); len(word) != 0 || code != want {
		t.Errorf("%s: Shortest by %d: %v, code %d, and should be code %d", shownRules(b), non, word, code, want)
	}
}

// longRules have a start that makes one word, of n terminals 0: the tens of each Non are those of the one ahead of it.
func longRules(n int) impl.Bnf {
	b := impl.Bnf{Terms: []impl.Term{{Name: "a"}}, Own: 1}
	rest := []int{}
	symbol := 0
	for ; n > 0; n /= 10 {
		rest = append(rest, slices.Repeat([]int{symbol}, n%10)...)
		sum := 1 + len(b.Nons)
		b.Nons = append(b.Nons, "sum"+strconv.Itoa(sum), "ten"+strconv.Itoa(sum+1))
		b.Prods = append(b.Prods, impl.Prod{Left: sum, Right: rest}, impl.Prod{Left: sum + 1, Right: slices.Repeat([]int{symbol}, 10)})
		rest, symbol = []int{sum}, sum+1
	}
	// The start is the first one: it stands for the last sum.
	last := rest[0]
	swap := func(symbol *int) {
		switch *symbol {
		case 1:
			*symbol = last
		case last:
			*symbol = 1
		}
	}
	for i := range b.Prods {
		swap(&b.Prods[i].Left)
		for k := range b.Prods[i].Right {
			swap(&b.Prods[i].Right[k])
		}
	}
	return b
}

// manyLetters is n terminals' names.
func manyLetters(n int) string {
	letters := "abcdefghijklmnopqrstuvwxyz0123456789!#$%&()*+,-./:;<>?@[]^_{|}~"
	return letters[:n]
}

// oneEach are Prods of a Left, one for each byte.
func oneEach(left string, letters string) []string {
	var prods []string
	for _, letter := range strings.Split(letters, "") {
		prods = append(prods, left+"="+letter)
	}
	return prods
}
