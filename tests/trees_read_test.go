package tests

import (
	"fmt"
	"math/rand"
	"regexp"
	"strings"
	"testing"

	"loop.example/g00037/impl"
)

func readsAs(t *testing.T, s string, want impl.Tree) {
	t.Helper()
	if x, code, at := impl.TreeRead(s); !sameTree(x, want) || code != impl.OK || at != 0 {
		t.Errorf("%.200q: %d %d", s, code, at)
	}
}

func refused(t *testing.T, s string, wantCode int, wantAt int) {
	t.Helper()
	if x, code, at := impl.TreeRead(s); !sameTree(x, impl.Tree{}) || code != wantCode || at != wantAt {
		t.Errorf("%.200q: %d %d, not %d %d", s, code, at, wantCode, wantAt)
	}
}

// Promise 1: TreeRead reads what TreeShow writes.
func TestWhatIsShownIsRead(t *testing.T) {
	for _, x := range someTrees() {
		readsAs(t, mustShow(t, x), x)
	}
	for b := 0; b < 256; b++ {
		for _, text := range []string{string([]byte{byte(b)}), string([]byte{byte(b), '7', byte(b)}), string([]byte{'\\', byte(b), '"'})} {
			readsAs(t, mustShow(t, leaf("a", text)), leaf("a", text))
		}
	}
}

// spaced is a tree's text with blanks wherever these may stand.
func spaced(r *rand.Rand, x impl.Tree) string {
	some := func(least int) string {
		s := ""
		for n := least + r.Intn(3); n > 0; n-- {
			s += string(" \n"[r.Intn(2)])
		}
		return s
	}
	if x.Leaf {
		return written(x)
	}
	s := "(" + some(0) + x.Name
	for i, kid := range x.Kids {
		least := 1
		if i == 0 && !kid.Leaf {
			least = 0
		}
		s += some(least) + spaced(r, kid)
	}
	return s + some(0) + ")"
}

func TestBlanksMayStandMoreOften(t *testing.T) {
	r := rand.New(rand.NewSource(2))
	for _, x := range someTrees() {
		readsAs(t, " \n"+spaced(r, x)+"\n\n ", x)
		readsAs(t, spaced(r, x), x)
	}
}

func TestPlaceOfTheFirstFault(t *testing.T) {
	for s, at := range map[string]int{
		"": 0, " ": 1, " \n ": 3, "\t": 0, "a": 1, "ab": 2, "a\"": 2, "a\"b": 3, "a\"\\": 3, "a\"\\0": 4, "a\"\\00": 5, "a\"\\000": 6,
		"(": 1, "( ": 2, "(a": 2, "(a ": 3, "(a b": 4, "(a b\"": 5, "(a b\"\"": 6, "(a b\"\" ": 7, "(a (b)": 6, "(a(b) ": 6,
		")": 0, "()": 1, "( )": 2, "((a))": 1, "(\"\")": 1, "\"\"": 0, "1\"\"": 0, "_a\"\"": 0, "(1)": 1, "(_)": 1,
		"a \"\"": 1, "a\n\"\"": 1, "a)": 1, "a(": 1, "a-\"\"": 1, "(a)b\"\"": 3, "(a) b\"\"": 4, "(a))": 3, "(a)(b)": 3, "a\"\"b\"\"": 3, "a\"\"\"": 3, "a\"\"\t": 3,
		"(a\"\")": 2, "(a-)": 2, "(a\t)": 2, "(a b)": 4, "(a b )": 4, "(a b\"\"c\"\")": 6, "(a b\"\"(c))": 6, "(a(b)(c))": 5, "(a (b)(c))": 6, "(a(b)c\"\")": 5, "(a b\"\".)": 6,
		"(a (b) 1)": 7, "(a b\"\" \")": 7, "(a b\"\"))": 7, "a\"\n\"": 2, "a\"\x1f\"": 2, "a\"\x7f\"": 2, "a\"\xff\"": 2, "a\"\t\"": 2, "a\" ~\x00\"": 4,
		"a\"\\n\"": 3, "a\"\\ \"": 3, "a\"\\/\"": 3, "a\"\\:00\"": 3, "a\"\\0:0\"": 4, "a\"\\00/\"": 5, "a\"\\00\"": 5, "a\"\\0\"": 4, "a\"\\\"": 4, "a\"\\\\\\\"": 6,
	} {
		refused(t, s, impl.ErrText, at)
	}
}

// The numbers that stand for bytes are those that TreeShow writes: no digit may be read that begins none of these.
func TestNumbersOfBytes(t *testing.T) {
	var codes []string
	for b := 0; b < 256; b++ {
		if b < 32 || b > 126 {
			codes = append(codes, fmt.Sprintf("%03d", b))
		}
	}
	for n := 0; n < 1000; n++ {
		number := fmt.Sprintf("%03d", n)
		good := 0
		for _, code := range codes {
			for i := 1; i <= 3 && code[:i] == number[:i]; i++ {
				good = max(good, i)
			}
		}
		if s := "a\"\\" + number + "\""; good == 3 {
			readsAs(t, s, leaf("a", string([]byte{byte(n)})))
		} else {
			refused(t, s, impl.ErrText, 3+good)
		}
	}
}

func TestLongNames(t *testing.T) {
	name := strings.Repeat("aZ9_", impl.MaxName/4)
	readsAs(t, name+"\"\"", leaf(name, ""))
	readsAs(t, "("+name+")", node(name))
	readsAs(t, "( "+name+"("+name+" "+name+"\"\"))", node(name, node(name, leaf(name, ""))))
	for _, more := range []string{"b", "7", "_", "bb", "bbbb"} {
		refused(t, name+more+"\"\"", impl.ErrText, impl.MaxName)
		refused(t, name+more, impl.ErrText, impl.MaxName)
		refused(t, "("+name+more+")", impl.ErrText, 1+impl.MaxName)
		refused(t, "( "+name+more+" b\"\")", impl.ErrText, 2+impl.MaxName)
		refused(t, "(a "+name+more+"\"\")", impl.ErrText, 3+impl.MaxName)
	}
	refused(t, name, impl.ErrText, impl.MaxName)
	refused(t, name+" \"\"", impl.ErrText, impl.MaxName)
	refused(t, "("+name+"\"\")", impl.ErrText, 1+impl.MaxName)
}

func nested(n int) string { return strings.Repeat("(a", n) + strings.Repeat(")", n) }

func TestReadUpToTheLimits(t *testing.T) {
	readsAs(t, written(wide(impl.MaxNodes)), wide(impl.MaxNodes))
	readsAs(t, written(deep(impl.MaxDepth)), deep(impl.MaxDepth))
	readsAs(t, "a\""+strings.Repeat("\\255", impl.MaxLeaf)+"\"", leaf("a", strings.Repeat("\xff", impl.MaxLeaf)))
	for _, s := range []string{
		written(wide(impl.MaxNodes + 1)), written(deep(impl.MaxDepth + 1)), nested(impl.MaxDepth + 1), nested(impl.MaxShow / 3),
		"a\"" + strings.Repeat("x", impl.MaxLeaf+1) + "\"", "(a b\"" + strings.Repeat("\\000", impl.MaxLeaf+1) + "\")", "a\"" + strings.Repeat("x", impl.MaxShow-3) + "\"",
	} {
		refused(t, s, impl.ErrFull, 0)
		// A fault of the text comes ahead of it, wherever it stands.
		if len(s) < impl.MaxShow-1 {
			refused(t, s+"\n)", impl.ErrText, len(s)+1)
		}
		refused(t, s[:len(s)-1], impl.ErrText, len(s)-1)
	}
	refused(t, strings.Repeat("(a", impl.MaxShow/2), impl.ErrText, impl.MaxShow)
}

func TestLongestTextToRead(t *testing.T) {
	fill := strings.Repeat(" \n", (impl.MaxShow-4)/2)
	readsAs(t, fill+"a\"b\"", leaf("a", "b"))
	readsAs(t, "a\"b\""+fill, leaf("a", "b"))
	readsAs(t, "( a"+fill+")", node("a"))
	refused(t, fill+"a\"b)", impl.ErrText, impl.MaxShow)
	for _, s := range []string{fill + "a\"b\" ", fill + "a\"b\"-", "(" + fill + "    ", strings.Repeat("-", impl.MaxShow+1), strings.Repeat("(a", impl.MaxShow)} {
		refused(t, s, impl.ErrBad, 0)
	}
}

const nameForm = `[a-zA-Z][a-zA-Z0-9_]{0,23}`

var leafForm = regexp.MustCompile(nameForm + `"(?:[ !#-\[\]-~]|\\["\\]|\\(?:0[0-2][0-9]|03[01]|12[7-9]|1[3-9][0-9]|2[0-4][0-9]|25[0-5]))*"`)
var nodeForm = regexp.MustCompile(`\([ \n]*` + nameForm + `(?:[ \n]*\x02|[ \n]+[\x01\x02])?(?:[ \n]+[\x01\x02])*[ \n]*\)`)
var treeForm = regexp.MustCompile(`^[ \n]*[\x01\x02][ \n]*$`)

// isText tells by patterns whether a text (without the bytes 1 and 2) is one of a tree: leaves become a byte 1, and nodes, from within, a byte 2.
func isText(s string) bool {
	s = leafForm.ReplaceAllString(s, "\x01")
	for {
		less := nodeForm.ReplaceAllString(s, "\x02")
		if less == s {
			return treeForm.MatchString(s)
		}
		s = less
	}
}

// goesOn tells whether s is the begin of a text, by putting behind it what may be lacking.
func goesOn(s string) bool {
	for open := 0; open <= strings.Count(s, "("); open++ {
		for _, end := range []string{"", "\"", "\"\"", "a", "a\"\"", "0\"", "00\"", "27\"", "7\""} {
			if isText(s + end + strings.Repeat(")", open)) {
				return true
			}
		}
	}
	return false
}

// All short texts: wherever a text goes on, each byte is put behind it.
func TestFaultsOfAllShortTexts(t *testing.T) {
	all := everyByte(3, 256)
	var look func(s string, left int, bytes string)
	look = func(s string, left int, bytes string) {
		if isText(s) {
			if _, code, at := impl.TreeRead(s); code != impl.OK || at != 0 {
				t.Errorf("%q: %d %d", s, code, at)
			}
		} else {
			refused(t, s, impl.ErrText, len(s))
		}
		for i := 0; left > 0 && i < len(bytes); i++ {
			if more := s + bytes[i:i+1]; goesOn(more) {
				look(more, left-1, bytes)
			} else {
				refused(t, more, impl.ErrText, len(s))
				refused(t, more+"\"(a)", impl.ErrText, len(s))
			}
		}
	}
	look("", 8, "(a\" )\\1")
	for _, s := range []string{"", "(", "(a", "(a ", "a", "a\"", "a\"\\", "a\"\"", "(a(b)", "(a b\"\"", "(a b\"\" ", "(a)"} {
		look(s, 1, all)
	}
}
