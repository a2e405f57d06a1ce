package tests

import (
	"math/rand"
	"regexp"
	"slices"
	"strings"
	"testing"

	"loop.example/g00037/impl"
)

var oneWord = regexp.MustCompile(`^(?:[A-Za-z][A-Za-z0-9_]*|'[!-&(-~]{1,16}'|~[ -}]{0,100}~|[;=|#()\[\]{}])`)

var oneGap = regexp.MustCompile(`^(?:[ \n]|%[^\n]*)+`)

// cutSource is the words of a text up to the first that is none, which is told as "?", and their places.
func cutSource(text string) ([]string, []int) {
	var words []string
	var places []int
	at := 0
	for {
		at += len(oneGap.FindString(text[at:]))
		if at == len(text) {
			return words, places
		}
		word := oneWord.FindString(text[at:])
		if nameWord.MatchString(word) && len(word) > 24 {
			word = ""
		}
		places = append(places, at)
		if word == "" {
			return append(words, "?"), places
		}
		words = append(words, word)
		at += len(word)
	}
}

// wordSign is a name's n, a LIT's ', a PATTERN's ~, and of all others the word.
func wordSign(word string) string {
	switch {
	case slices.Contains([]string{"language", "token", "skip", "left", "right", "none"}, word):
		return word
	case nameWord.MatchString(word):
		return "n"
	}
	return word[:1]
}

// sourceSteps tells where a word leads from a place of a declaration outside of brackets.
var sourceSteps = map[string]string{
	"begin language": "named", "named n": "told", "told ;": "decl",
	"decl token": "token", "decl skip": "token", "token n": "pattern", "pattern ~": "end",
	"decl left": "level", "decl right": "level", "decl none": "level", "level '": "lits", "lits '": "lits", "lits ;": "decl",
	"decl n": "rule", "rule =": "alt", "alt n": "alt", "alt '": "alt", "alt |": "alt", "alt #": "label", "alt ;": "decl",
	"label n": "labelled", "labelled |": "alt", "labelled ;": "decl", "end ;": "decl",
}

// wrongWord is the place among words of the first with which those ahead cannot go on, their number when they end too early, -1 when they are a language.
func wrongWord(words []string) int {
	state, open := "begin", ""
	for i, word := range words {
		sign := wordSign(word)
		switch {
		case state == "alt" && shutSign[sign[0]] != "":
			open += shutSign[sign[0]]
		case open != "" && strings.HasSuffix(open, sign):
			open = open[:len(open)-1]
		case open != "" && !strings.Contains("n'|", sign):
			return i
		default:
			state = sourceSteps[state+" "+sign]
		}
		if state == "" {
			return i
		}
	}
	if state != "decl" {
		return len(words)
	}
	return -1
}

// checkSource holds what GrammarRead tells of a text with few words against what the words tell.
func checkSource(t *testing.T, text string) {
	t.Helper()
	words, places := cutSource(text)
	places = append(places, len(text))
	wrong := wrongWord(words)
	if wrong >= 0 {
		noSource(t, text, impl.ErrText, places[wrong])
	} else if _, code, at := impl.GrammarRead(text); code != impl.OK || at != 0 {
		t.Errorf("GrammarRead(%q): %d %d", text, code, at)
	}
}

func TestTextsOfLanguagesAreRead(t *testing.T) {
	r := rand.New(rand.NewSource(1))
	for _, m := range someModels(3000, false) {
		text := spacedWords(r, m.words(r))
		if g := mustRead(t, text); !sameGrammar(g, m.grammar()) {
			t.Fatalf("%q is %v", text, g)
		}
		checkSource(t, text)
	}
}

func sourceAlphabet() []string {
	return []string{"language", "token", "skip", "left", "right", "none", "a", "'x'", "~r~", ";", "=", "|", "#", "(", ")", "[", "]", "{", "}", "?"}
}

func wordLists(words []string, length int) [][]string {
	lists := [][]string{{}}
	for from := 0; length > 0; length-- {
		to := len(lists)
		for _, list := range lists[from:to] {
			for _, word := range words {
				lists = append(lists, append(slices.Clone(list), word))
			}
		}
		from = to
	}
	return lists
}

func TestFirstWrongWordOfAllShortTexts(t *testing.T) {
	begins := []string{"", "language a", "language a ;", "language a ; token b", "language a ; left 'x'", "language a ; A =", "language a ; A = b |", "language a ; A = ( [", "language a ; A = {", "language a ; A = b # c"}
	for _, words := range wordLists(sourceAlphabet(), 3) {
		for _, begin := range begins {
			checkSource(t, begin+" "+strings.Join(words, " "))
		}
	}
}

func TestFirstWrongByteOfAllShortTexts(t *testing.T) {
	for _, end := range textsOver("a1_'~%;|( \n\xff", 4) {
		checkSource(t, "language a;A="+end)
		checkSource(t, "language a;token T"+end+";")
		checkSource(t, "language a;A="+end+"b';")
	}
}

func TestFirstWrongWordOfSpoiltTexts(t *testing.T) {
	r := rand.New(rand.NewSource(2))
	bytes := everyByte(0, 256)
	for _, m := range someModels(2000, false) {
		words := m.words(r)
		for range 5 {
			changed := slices.Clone(words)
			at := r.Intn(len(changed))
			changed = slices.Replace(changed, at, at+r.Intn(2), oneOf(r, sourceAlphabet()...))
			checkSource(t, spacedWords(r, changed))
			text := spacedWords(r, words)
			at = r.Intn(len(text))
			checkSource(t, text[:at]+oneOf(r, "", bytes[r.Intn(256):][:1], string(text[at])+"'", "~")+text[at+1:])
			checkSource(t, text[:at])
		}
	}
}

func TestPlacesOfWrongWords(t *testing.T) {
	for _, x := range []struct {
		text string
		at   int
	}{
		{"", 0}, {" ", 1}, {"% only this", 11}, {"language ", 9}, {"languag a;", 0}, {"languagea;", 0}, {"language 1;", 9}, {"language a;b", 12}, {"language a; % x", -1},
		{"language a;token left ~x~;", 17}, {"language a;token T~x;", 18}, {"language a;token T~x\n~;", 18}, {"language a;token T~~;", -1}, {"language a;token T ~ ~ ~ ~;", 23}, {"language a;token T;", 18}, {"language a;tokenT ~x~;", 18}, {"language a;token T 'x';", 19},
		{"language a;left;", 15}, {"language a;left 'a''b';", -1}, {"language a;left 'a''b'", 22}, {"language a;left 'a' ~b~;", 20}, {"language a;left = 'a';", 16}, {"language a;Left = 'a';", -1},
		{"language a;A=skip;", 13}, {"language a;A=none;", 13}, {"language a;A=language;", 13}, {"language a;A=nones;", -1}, {"language a;A=B#left;", 15}, {"language a;A=B#L C;", 17}, {"language a;A=B#L#M;", 16}, {"language a;A=#L;", -1}, {"language a;A=(B#L);", 15}, {"language a;A=(B;)", 15},
		{"language a;A=(B];", 15}, {"language a;A=[B};", 15}, {"language a;A={B);", 15}, {"language a;A=B);", 14}, {"language a;A=((B);", 17}, {"language a;A=(([{}]));", -1}, {"language a;A=(|);", -1}, {"language a;A=|;", -1}, {"language a;A==;", 13},
		{"language a;A='';", 13}, {"language a;A=''';", 13}, {"language a;A=' ';", 13}, {"language a;A='a b';", 13}, {"language a;A='\u00e9';", 13}, {"language a;A='%';", -1}, {"language a;A='~'~;", 16}, {"language a;A=\"x\";", 13}, {"language a;A='a'b'c'd;", -1},
		{"language a;A=B%;\n;", -1}, {"language a;A=B%;", 16}, {"language a%b\n;", -1}, {"language%a\nb;", -1}, {"%\xc3\nlanguage a;", -1}, {"language a;\t", 11}, {"language a;\r\n", 11}, {"language\u00a0a;", 8}, {"language a;A=\u0161;", 13}, {"\ufefflanguage a;", 0},
	} {
		if x.at >= 0 {
			noSource(t, x.text, impl.ErrText, x.at)
		} else {
			mustRead(t, x.text)
		}
		checkSource(t, x.text)
	}
}

func TestEachByteInWords(t *testing.T) {
	for i := range 256 {
		b := string([]byte{byte(i)})
		litByte := i >= 33 && i <= 126 && i != '\''
		checkByte(t, "language a;A='", b, "';", litByte, 13)
		checkByte(t, "language a;A='x", b, "y';", litByte, 13)
		checkByte(t, "language a;left'", b, "';", litByte, 15)
		checkByte(t, "language a;token T~", b, "~;", i >= 32 && i <= 125, 18)
		letter := i >= 'a' && i <= 'z' || i >= 'A' && i <= 'Z'
		checkByte(t, "language ", b, "_;", letter, 9)
		checkByte(t, "language x", b, "_;", letter || i >= '0' && i <= '9' || i == '_', -1)
		mustRead(t, "language a;%"+b+"\n")
	}
}

// checkByte wants a text to be read, with what stands between its ends as it is, or to be refused at a place (or at any, for -1).
func checkByte(t *testing.T, begin string, b string, end string, reads bool, at int) {
	t.Helper()
	checkSource(t, begin+b+end)
	_, code, place := impl.GrammarRead(begin + b + end)
	// A % begins a remark, in which the rest is lost; a blank, a ~ or a ' may part words.
	if strings.Contains("% \n", b) && at != 13 && at != 15 && at != 18 || b == "'" || b == "~" {
		return
	}
	if reads != (code == impl.OK) || !reads && at >= 0 && place != at {
		t.Errorf("%q: %d %d", begin+b+end, code, place)
	}
}

func TestLengthsOfWords(t *testing.T) {
	long := strings.Repeat("n", impl.MaxName)
	for _, form := range []string{"language @;", "language a;token @~x~;", "language a;skip @~x~;", "language a;@=;", "language a;A=@;", "language a;A=(@);", "language a;A=#@;"} {
		at := strings.Index(form, "@")
		mustRead(t, strings.Replace(form, "@", long, 1))
		noSource(t, strings.Replace(form, "@", long+"n", 1), impl.ErrText, at)
		noSource(t, strings.Replace(form, "@", long+"_", 1), impl.ErrText, at)
	}
	lit := strings.Repeat("!", impl.MaxLit)
	for _, form := range []string{"language a;left'@';", "language a;A='@';", "language a;A=['@'];"} {
		mustRead(t, strings.Replace(form, "@", lit, 1))
		noSource(t, strings.Replace(form, "@", lit+"!", 1), impl.ErrText, strings.Index(form, "'"))
	}
	rx := strings.Repeat("r", impl.MaxRx)
	g := mustRead(t, "language a;token A~"+rx+"~;skip B~~;")
	if len(g.Tokens) != 2 || g.Tokens[0].Rx != rx || g.Tokens[1] != (impl.Token{Name: "B", Skip: true}) {
		t.Error(g)
	}
	noSource(t, "language a;token A~"+rx+"r~;", impl.ErrText, 18)
}

// many is texts with as many of something as a Grammar may have, or one more.
func many(more int) []string {
	return []string{
		"language a;" + numbered(impl.MaxTokens+more, "token T%d~x~;"),
		"language a;" + numbered(impl.MaxTokens+more, "skip T%d~x~;"),
		"language a;" + numbered(impl.MaxLevels+more, "left'%d';"),
		"language a;" + numbered(impl.MaxGRules+more, "A%d=;"),
		"language a;A=" + numbered(impl.MaxParts+more, "B%d ") + ";",
		"language a;A=" + numbered(impl.MaxParts/2, "'%d'") + ";B=" + numbered(impl.MaxParts/2+more, "|{}%%%d\n") + ";",
		"language a;A=" + strings.Repeat("(", impl.MaxParts+more) + strings.Repeat(")", impl.MaxParts+more) + ";",
	}
}

func TestAsManyAsAGrammarMayHave(t *testing.T) {
	for _, text := range many(0) {
		g := mustRead(t, text)
		if !impl.GrammarOK(g) {
			t.Error(text)
		}
	}
	for _, text := range many(1) {
		noSource(t, text, impl.ErrFull, 0)
		noSource(t, text+"1", impl.ErrText, len(text))
		noSource(t, text+"A=", impl.ErrText, len(text)+2)
	}
	// What no limit is named for may be there often.
	g := mustRead(t, "language a;none"+numbered(500, "'%d'")+";A="+strings.Repeat("|", 500)+";B=("+strings.Repeat("|", 500)+");")
	if len(g.Levels[0].Lits) != 500 || len(g.Rules[0].Alts) != 501 || len(g.Parts) != 1 || len(g.Parts[0].Alts) != 501 {
		t.Error(g)
	}
}

func TestLongestSource(t *testing.T) {
	text := "language a;A='x';"
	full := text + strings.Repeat(" ", impl.MaxSource-len(text))
	if g := mustRead(t, full); !sameGrammar(g, mustRead(t, text)) {
		t.Error(g)
	}
	mustRead(t, text+"%"+strings.Repeat("\xff", impl.MaxSource-len(text)-1))
	noSource(t, full+" ", impl.ErrBad, 0)
	noSource(t, "?"+full, impl.ErrBad, 0)
	open := "language a;A="
	for _, sign := range []string{"(", "[", "{", "({["} {
		deep := open + strings.Repeat(sign, (impl.MaxSource-len(open))/len(sign))
		noSource(t, deep, impl.ErrText, len(deep))
	}
	noSource(t, strings.Repeat("n", impl.MaxSource), impl.ErrText, 0)
	noSource(t, open+"'"+strings.Repeat("(", impl.MaxSource-len(open)-1), impl.ErrText, len(open))
}

func TestListsOfAGrammarAreApart(t *testing.T) {
	text := "language a;left'x''y';right'z';A=B'x'(C|D|)#L|[E F|{}];B=C D|E;token T~x~;skip U~y~;"
	want, g := mustRead(t, text), mustRead(t, text)
	var lists []*[]int
	for i := range g.Rules {
		for k := range g.Rules[i].Alts {
			lists = append(lists, &g.Rules[i].Alts[k].Items)
		}
	}
	for i := range g.Parts {
		for k := range g.Parts[i].Alts {
			lists = append(lists, &g.Parts[i].Alts[k])
		}
	}
	for _, list := range lists {
		_ = append(*list, 77, 78)
	}
	for i := range g.Rules {
		_ = append(g.Rules[i].Alts, impl.GAlt{Label: "Z"})
	}
	for i := range g.Levels {
		_ = append(g.Levels[i].Lits, "Z")
	}
	for i := range g.Parts {
		_ = append(g.Parts[i].Alts, []int{79})
	}
	if !sameGrammar(g, want) {
		t.Error(g)
	}
	for i := range lists {
		for k := range *lists[i] {
			(*lists[i])[k] = -1
		}
		for _, other := range lists[i+1:] {
			if slices.Contains(*other, -1) {
				t.Error(i)
			}
		}
	}
	if again := mustRead(t, text); !sameGrammar(again, want) {
		t.Error(again)
	}
}
