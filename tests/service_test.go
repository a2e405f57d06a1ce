package tests

import (
	"fmt"
	"math"
	"strings"
	"testing"

	"loop.example/g00037/impl"
)

// hasText asks for all of a document's text, in the language of bytes.
func hasText(doc string, version int, text string) said {
	x := node("All")
	for i := range len(text) {
		x.Kids = append(x.Kids, leaf("One", text[i:i+1]))
	}
	return asked(impl.MsTree, doc, version, 0, 0, written(x))
}

func TestServeNothing(t *testing.T) {
	if replies, code := impl.Serve(small, nil); len(replies) != 0 || code != impl.OK {
		t.Error(replies, code)
	}
	if replies, code := impl.Serve(small, []impl.Msg{}); len(replies) != 0 || code != impl.OK {
		t.Error(replies, code)
	}
}

func TestServeMaxMsgs(t *testing.T) {
	list := []said{opened("a", "")}
	for len(list) < impl.MaxMsgs {
		list = append(list, didEdit("a", len(list), edit(0, 0, "1"), len(list)+1, 0))
	}
	wantServed(t, "MaxMsgs", small, list...)
	for _, msgs := range [][]impl.Msg{make([]impl.Msg, impl.MaxMsgs+1), make([]impl.Msg, 5*impl.MaxMsgs)} {
		if replies, code := impl.Serve(small, msgs); len(replies) != 0 || code != impl.ErrFull {
			t.Errorf("%d messages: %d replies, %d", len(msgs), len(replies), code)
		}
	}
}

func TestServeMaxDocs(t *testing.T) {
	var list []said
	for i := range impl.MaxDocs {
		list = append(list, opened(fmt.Sprintf("d%d", i), "1"))
	}
	one := impl.Msg{Kind: impl.MsOpen, Doc: "more", Text: "2"}
	list = append(list,
		noReply(one, impl.ErrFull, 0, 0),
		noReply(impl.Msg{Kind: impl.MsTree, Doc: "more", Version: 1}, impl.ErrNone, 0, 0),
		noReply(impl.Msg{Kind: impl.MsOpen, Doc: "d3", Text: "2"}, impl.ErrTwice, 1, 0),
		closed("d3"),
		said{one, impl.Reply{Version: 1}},
		noReply(impl.Msg{Kind: impl.MsOpen, Doc: "d3"}, impl.ErrFull, 0, 0),
		asked(impl.MsTree, "more", 1, 0, 0, `(N Num"2")`),
		asked(impl.MsTree, "d0", 1, 0, 0, `(N Num"1")`),
		closed("more"),
		closed("d0"),
		opened("d3", "3"),
		opened("d0", "4"),
		asked(impl.MsTree, "d0", 1, 0, 0, `(N Num"4")`),
		asked(impl.MsTree, "d3", 1, 0, 0, `(N Num"3")`),
	)
	wantServed(t, "MaxDocs", small, list...)
}

// A document that is read must not be counted as there when it is closed right behind, nor one that is opened behind that as one too many.
func TestServeMaxDocsWhileReading(t *testing.T) {
	var list []said
	for i := range impl.MaxDocs {
		list = append(list, opened(fmt.Sprintf("d%d", i), "1"))
	}
	for i := range 20 {
		doc := fmt.Sprintf("d%d", i)
		list = append(list, asked(impl.MsFormat, doc, 1, 80, 0, "1\n"), closed(doc), opened(fmt.Sprintf("d%d", i+impl.MaxDocs), "1"), noReply(impl.Msg{Kind: impl.MsOpen, Doc: doc}, impl.ErrFull, 0, 0))
		list[len(list)-4].reply.Version = 2
	}
	wantServed(t, "MaxDocs while documents are read", small, list...)
}

func TestServeNamesAndKinds(t *testing.T) {
	long := strings.Repeat("n", impl.MaxName)
	list := []said{opened(long, "1"), opened("aZ_09", "1"), opened("Z", "1")}
	for _, name := range []string{"", "_a", "9", "a-b", " a", "a ", "a\n", "ä", "a\x00", long + "n"} {
		for _, kind := range []int{impl.MsOpen, impl.MsClose, impl.MsEdit, impl.MsUndo, impl.MsTree, impl.MsFix, 0} {
			list = append(list, noReply(impl.Msg{Kind: kind, Doc: name, Version: 1}, impl.ErrBad, 0, 0))
		}
	}
	wantServed(t, "names", small, list...)

	list = []said{opened("a", "1+")}
	for _, kind := range []int{0, 10, -1, math.MinInt, math.MaxInt} {
		// The version is told with each code, where there is a document.
		list = append(list,
			noReply(impl.Msg{Kind: kind, Doc: "a", Version: 1, At: 1, Text: "1"}, impl.ErrBad, 1, 0),
			noReply(impl.Msg{Kind: kind, Doc: "a", Version: 7}, impl.ErrBad, 1, 0),
			noReply(impl.Msg{Kind: kind, Doc: "b"}, impl.ErrBad, 0, 0),
			noReply(impl.Msg{Kind: kind, Doc: "9"}, impl.ErrBad, 0, 0))
	}
	for kind := impl.MsClose; kind <= impl.MsFix; kind++ {
		list = append(list, noReply(impl.Msg{Kind: kind, Doc: "b", Version: 1, At: -1, Text: strings.Repeat("1", impl.MaxText+1)}, impl.ErrNone, 0, 0))
	}
	wantServed(t, "kinds", small, list...)
}

func TestServeOpenAndClose(t *testing.T) {
	most := strings.Repeat("1", impl.MaxText)
	var full []said
	for i := range impl.MaxDocs {
		full = append(full, opened(fmt.Sprintf("d%d", i), "1"))
	}
	wantServed(t, "ErrTwice ahead of MaxDocs", small, append(full,
		noReply(impl.Msg{Kind: impl.MsOpen, Doc: "d1", Text: most + "1"}, impl.ErrTwice, 1, 0))...)
	wantServed(t, "texts of MaxText bytes and one more", small,
		opened("a", most),
		noReply(impl.Msg{Kind: impl.MsOpen, Doc: "b", Text: most + "1"}, impl.ErrFull, 0, 0),
		noReply(impl.Msg{Kind: impl.MsClose, Doc: "b"}, impl.ErrNone, 0, 0),
		noReply(impl.Msg{Kind: impl.MsOpen, Doc: "a", Text: most + "1"}, impl.ErrTwice, 1, 0),
		noReply(impl.Msg{Kind: impl.MsEdit, Doc: "a", Version: 1, At: impl.MaxText, Text: "1"}, impl.ErrFull, 1, 0),
		didEdit("a", 1, edit(impl.MaxText, 0, ""), 2, impl.MaxText))
	wantServed(t, "numbers that mean nothing", small,
		said{impl.Msg{Kind: impl.MsOpen, Doc: "a", Version: -5, At: -7, Del: 99, Text: "1"}, impl.Reply{Version: 1}},
		said{impl.Msg{Kind: impl.MsClose, Doc: "a", Version: 77, At: -7, Del: 99, Text: most + "1"}, impl.Reply{}},
		noReply(impl.Msg{Kind: impl.MsClose, Doc: "a"}, impl.ErrNone, 0, 0))
	wantServed(t, "closed and opened anew", anyBytes,
		opened("a", "old"),
		didEdit("a", 1, edit(3, 0, "er"), 2, 3),
		hasText("a", 2, "older"),
		closed("a"),
		noReply(msgOf(impl.MsTree, "a", 2, 0), impl.ErrNone, 0, 0),
		opened("a", "new"),
		noReply(msgOf(impl.MsTree, "a", 2, 0), impl.ErrOld, 1, 0),
		noReply(msgOf(impl.MsUndo, "a", 1, 0), impl.ErrPlace, 1, 0),
		noReply(editOf("a", 2, edit(0, 0, "x")), impl.ErrPlace, 1, 0),
		hasText("a", 1, "new"),
		didEdit("a", 1, edit(0, 3, ""), 2, 0),
		hasText("a", 2, ""))
}

// pastVersions is a document a of that many versions; its text has an x for each but the first.
func pastVersions(n int) []said {
	list := []said{opened("a", "")}
	for version := 2; version <= n; version++ {
		list = append(list, didEdit("a", version-1, edit(0, 0, "x"), version, 0))
	}
	return list
}

func TestServeEditVersions(t *testing.T) {
	now := impl.MaxPast + 5
	wantServed(t, "versions", anyBytes, append(pastVersions(now),
		noReply(editOf("a", 0, edit(0, 0, "y")), impl.ErrPlace, now, 0),
		noReply(editOf("a", -1, edit(0, 0, "y")), impl.ErrPlace, now, 0),
		noReply(editOf("a", math.MinInt, edit(0, 0, "y")), impl.ErrPlace, now, 0),
		noReply(editOf("a", math.MaxInt, edit(0, 0, "y")), impl.ErrPlace, now, 0),
		noReply(editOf("a", now+1, edit(0, 0, "y")), impl.ErrPlace, now, 0),
		noReply(editOf("a", 1, edit(0, 0, "y")), impl.ErrOld, now, 0),
		noReply(editOf("a", now-impl.MaxPast-1, edit(0, 0, "y")), impl.ErrOld, now, 0),
		hasText("a", now, strings.Repeat("x", now-1)),
		didEdit("a", now-impl.MaxPast, edit(0, 0, "y"), now+1, impl.MaxPast),
		hasText("a", now+1, strings.Repeat("x", impl.MaxPast)+"y"+strings.Repeat("x", now-1-impl.MaxPast)),
		noReply(editOf("a", now-impl.MaxPast, edit(0, 0, "z")), impl.ErrOld, now+1, 0),
		didEdit("a", now+1, edit(0, 0, "z"), now+2, 0))...)
	wantServed(t, "version 1 of as many as there may be", anyBytes, append(pastVersions(impl.MaxPast+1),
		didEdit("a", 1, edit(0, 0, "y"), impl.MaxPast+2, impl.MaxPast),
		noReply(editOf("a", 1, edit(0, 0, "y")), impl.ErrOld, impl.MaxPast+2, 0))...)

	far := strings.Repeat("f", impl.MaxText+1)
	wantServed(t, "which comes first", anyBytes, append(pastVersions(now),
		noReply(editOf("a", 0, edit(-1, 0, far)), impl.ErrPlace, now, 0),
		noReply(editOf("a", now+1, edit(now+1, 0, far)), impl.ErrPlace, now, 0),
		noReply(editOf("a", 1, edit(-1, 0, far)), impl.ErrOld, now, 0),
		noReply(editOf("a", now, edit(-1, 0, far)), impl.ErrBad, now, 0),
		noReply(editOf("a", now, edit(0, now, far)), impl.ErrBad, now, 0),
		noReply(editOf("a", now, edit(0, 0, far)), impl.ErrFull, now, 0),
		noReply(editOf("a", now-1, edit(0, 0, far)), impl.ErrFull, now, 0),
		hasText("a", now, strings.Repeat("x", now-1)))...)
}

// An edit is held against the text that it was made for, and then against the one that there is.
func TestServeEditsOfOlderTexts(t *testing.T) {
	wantServed(t, "right for what it was made for", anyBytes,
		opened("a", "abcdef"),
		didEdit("a", 1, edit(0, 6, ""), 2, 0),
		didEdit("a", 1, edit(4, 2, "x"), 3, 0),
		hasText("a", 3, "x"),
		noReply(editOf("a", 2, edit(1, 0, "y")), impl.ErrBad, 3, 0),
		noReply(editOf("a", 3, edit(0, 2, "y")), impl.ErrBad, 3, 0),
		didEdit("a", 2, edit(0, 0, "y"), 4, 1),
		hasText("a", 4, "xy"))
	wantServed(t, "right for what there is alone", anyBytes,
		opened("a", "ab"),
		didEdit("a", 1, edit(2, 0, "cdef"), 2, 2),
		noReply(editOf("a", 1, edit(3, 0, "x")), impl.ErrBad, 2, 0),
		noReply(editOf("a", 1, edit(2, 1, "x")), impl.ErrBad, 2, 0),
		noReply(editOf("a", 1, edit(0, -1, "x")), impl.ErrBad, 2, 0),
		didEdit("a", 2, edit(2, 1, "x"), 3, 2),
		hasText("a", 3, "abxdef"))

	most := strings.Repeat("m", impl.MaxText)
	wantServed(t, "room in what there is, none in what it was made for", anyBytes,
		opened("a", most),
		didEdit("a", 1, edit(10, impl.MaxText-10, ""), 2, 10),
		didEdit("a", 1, edit(5, 0, "xyz"), 3, 5),
		hasText("a", 3, "mmmmmxyzmmmmm"))
	wantServed(t, "room in what it was made for, none in what there is", anyBytes,
		opened("a", ""),
		didEdit("a", 1, edit(0, 0, most[1:]), 2, 0),
		noReply(editOf("a", 1, edit(0, 0, "xy")), impl.ErrFull, 2, 0),
		didEdit("a", 1, edit(0, 0, "x"), 3, impl.MaxText-1),
		noReply(editOf("a", 1, edit(0, 0, "y")), impl.ErrFull, 3, 0))
	wantServed(t, "what leaves makes room, if it is still there", anyBytes,
		opened("a", "ab"+most[4:]),
		didEdit("a", 1, edit(0, 2, ""), 2, 0),
		didEdit("a", 2, edit(0, 0, "mmmm"), 3, 0),
		noReply(editOf("a", 1, edit(0, 2, "x")), impl.ErrFull, 3, 0),
		didEdit("a", 1, edit(0, 3, "x"), 4, 4))
}

func TestServeMovesOverSeveral(t *testing.T) {
	wantServed(t, "several", anyBytes,
		opened("a", "abcdefgh"),
		didEdit("a", 1, edit(0, 2, "1"), 2, 0),
		hasText("a", 2, "1cdefgh"),
		didEdit("a", 1, edit(4, 2, "23"), 3, 3),
		hasText("a", 3, "1cd23gh"),
		didEdit("a", 1, edit(3, 4, "456"), 4, 2),
		hasText("a", 4, "1c456h"),
		didEdit("a", 2, edit(4, 1, "7"), 5, 5),
		hasText("a", 5, "1c4567h"),
		didEdit("a", 1, edit(8, 0, "8"), 6, 7),
		didEdit("a", 1, edit(0, 0, "9"), 7, 1),
		hasText("a", 7, "19c4567h8"),
		didEdit("a", 3, edit(0, 7, ""), 8, 0),
		hasText("a", 8, "8"))
	// It is moved by edits as they were done, not as they were said.
	wantServed(t, "moved by what was moved", anyBytes,
		opened("a", "abc"),
		didEdit("a", 1, edit(0, 0, "xxxx"), 2, 0),
		didEdit("a", 1, edit(1, 1, "yy"), 3, 5),
		hasText("a", 3, "xxxxayyc"),
		didEdit("a", 2, edit(6, 1, "z"), 4, 7),
		hasText("a", 4, "xxxxayyz"),
		didEdit("a", 2, edit(4, 1, "w"), 5, 4),
		hasText("a", 5, "xxxxwyyz"))
	wantServed(t, "moved by undos and by what is set anew", small,
		opened("a", "1+2"),
		didEdit("a", 1, edit(0, 1, "77"), 2, 0),
		undone("a", 2, 0),
		setAnew("a", 3, 80, "1 + 2\n"),
		didEdit("a", 1, edit(3, 0, "+9"), 5, 6),
		asked(impl.MsTree, "a", 5, 0, 0, `(Add (Add (N Num"1") Ws" " Lit"+" (N Ws" " Num"2")) Ws"\010" Lit"+" (N Num"9"))`))
}

func TestServeUndo(t *testing.T) {
	wantServed(t, "version 1", anyBytes,
		opened("a", "ab"),
		noReply(msgOf(impl.MsUndo, "a", 1, 0), impl.ErrPlace, 1, 0),
		noReply(msgOf(impl.MsUndo, "a", 0, 0), impl.ErrOld, 1, 0),
		noReply(msgOf(impl.MsUndo, "a", 2, 0), impl.ErrOld, 1, 0),
		hasText("a", 1, "ab"))
	wantServed(t, "an undo of an undo", anyBytes,
		opened("a", "abcd"),
		didEdit("a", 1, edit(1, 2, "xyz"), 2, 1),
		undone("a", 2, 1),
		hasText("a", 3, "abcd"),
		undone("a", 3, 1),
		hasText("a", 4, "axyzd"),
		undone("a", 4, 1),
		undone("a", 5, 1),
		hasText("a", 6, "axyzd"),
		noReply(msgOf(impl.MsUndo, "a", 5, 0), impl.ErrOld, 6, 0),
		noReply(msgOf(impl.MsUndo, "a", 7, 0), impl.ErrOld, 6, 0))
	wantServed(t, "an undo of an edit that was moved", anyBytes,
		opened("a", "abcd"),
		didEdit("a", 1, edit(0, 0, "12"), 2, 0),
		didEdit("a", 1, edit(3, 1, "xyz"), 3, 5),
		hasText("a", 3, "12abcxyz"),
		undone("a", 3, 5),
		hasText("a", 4, "12abcd"))
	wantServed(t, "an undo of nothing", anyBytes,
		opened("a", "ab"),
		didEdit("a", 1, edit(2, 0, ""), 2, 2),
		undone("a", 2, 2),
		hasText("a", 3, "ab"))
	wantServed(t, "an undo of what was set anew", small,
		opened("a", "1+2"),
		setAnew("a", 1, 80, "1 + 2\n"),
		undone("a", 2, 0),
		asked(impl.MsTree, "a", 3, 0, 0, `(Add (N Num"1") Lit"+" (N Num"2"))`),
		undone("a", 3, 0),
		asked(impl.MsFormat, "a", 4, 80, 0, "1 + 2\n"))
	most := strings.Repeat("m", impl.MaxText)
	wantServed(t, "an undo back to MaxText bytes", small,
		opened("a", most),
		didEdit("a", 1, edit(0, impl.MaxText, ""), 2, 0),
		undone("a", 2, 0),
		undone("a", 3, 0),
		undone("a", 4, 0),
		noReply(editOf("a", 5, edit(0, 0, "m")), impl.ErrFull, 5, 0))
}

func TestServeTree(t *testing.T) {
	wantServed(t, "trees", small,
		opened("a", "1 + (2)"),
		asked(impl.MsTree, "a", 1, 0, 0, `(Add (N Num"1") Ws" " Lit"+" (E Ws" " Lit"(" (N Num"2") Lit")"))`),
		said{impl.Msg{Kind: impl.MsTree, Doc: "a", Version: 1, At: -9, Del: -9, Text: "x"}, impl.Reply{Version: 1, Text: `(Add (N Num"1") Ws" " Lit"+" (E Ws" " Lit"(" (N Num"2") Lit")"))`}},
		noReply(msgOf(impl.MsTree, "a", 0, 0), impl.ErrOld, 1, 0),
		noReply(msgOf(impl.MsTree, "a", 2, 0), impl.ErrOld, 1, 0),
		opened("b", "1 1"),
		noReply(msgOf(impl.MsTree, "b", 1, 0), impl.ErrText, 1, 2),
		opened("c", ""),
		noReply(msgOf(impl.MsTree, "c", 1, 0), impl.ErrText, 1, 0),
		opened("d", "1 + ?"),
		noReply(msgOf(impl.MsTree, "d", 1, 0), impl.ErrText, 1, 4),
		opened("e", "12 + "),
		noReply(msgOf(impl.MsTree, "e", 1, 0), impl.ErrText, 1, 5),
		opened("f", strings.Repeat("1", impl.MaxLeaf+1)),
		noReply(msgOf(impl.MsTree, "f", 1, 0), impl.ErrFull, 1, 0),
		opened("g", " 1"+strings.Repeat("+1", impl.MaxParse/2)),
		noReply(msgOf(impl.MsTree, "g", 1, 0), impl.ErrBad, 1, 0))

	// Each leaf is shown with 28 bytes, 3 more for a line feed, and one more for two bytes.
	name := strings.Repeat("n", impl.MaxName)
	lang := "language long; skip " + name + " ~a|bb|\\n~; All = ;"
	full, over := strings.Repeat("a", 713)+"\n", strings.Repeat("a", 712)+"\nbb"
	shown := "(All" + strings.Repeat(" "+name+"\"a\"", 713) + " " + name + "\"\\010\")"
	if x, _, _ := impl.Reading(lang, over); len(shown) != impl.MaxShow || len(written(x)) != impl.MaxShow+1 {
		t.Fatal(len(shown), len(written(x)))
	}
	wantServed(t, "MaxShow bytes and one more", lang,
		opened("a", full),
		asked(impl.MsTree, "a", 1, 0, 0, shown),
		opened("b", over),
		noReply(msgOf(impl.MsTree, "b", 1, 0), impl.ErrFull, 1, 0),
		asked(impl.MsPick, "b", 1, 714, 713, "713"))
}

func TestServeNext(t *testing.T) {
	text := "1 +(2)"
	wantServed(t, "what comes next", small,
		opened("a", text),
		asked(impl.MsNext, "a", 1, 0, 0, "Num '('"),
		asked(impl.MsNext, "a", 1, 1, 0, "'+' ."),
		asked(impl.MsNext, "a", 1, 3, 0, "Num '('"),
		asked(impl.MsNext, "a", 1, 5, 0, "'+' ')'"),
		asked(impl.MsNext, "a", 1, len(text), 0, "'+' ."),
		noReply(msgOf(impl.MsNext, "a", 1, len(text)+1), impl.ErrPlace, 1, 0),
		noReply(msgOf(impl.MsNext, "a", 1, -1), impl.ErrPlace, 1, 0),
		noReply(msgOf(impl.MsNext, "a", 1, math.MaxInt), impl.ErrPlace, 1, 0),
		noReply(msgOf(impl.MsNext, "a", 1, math.MinInt), impl.ErrPlace, 1, 0),
		noReply(msgOf(impl.MsNext, "a", 2, -1), impl.ErrOld, 1, 0),
		noReply(msgOf(impl.MsNext, "a", 0, 0), impl.ErrOld, 1, 0))
	wantServed(t, "faults count as far as At", small,
		opened("a", "1 1 ?"),
		asked(impl.MsNext, "a", 1, 2, 0, "'+' ."),
		noReply(msgOf(impl.MsNext, "a", 1, 3), impl.ErrText, 1, 2),
		noReply(msgOf(impl.MsNext, "a", 1, 4), impl.ErrText, 1, 2),
		noReply(msgOf(impl.MsNext, "a", 1, 5), impl.ErrText, 1, 4),
		noReply(msgOf(impl.MsNext, "a", 1, 6), impl.ErrPlace, 1, 0),
		opened("b", ""),
		asked(impl.MsNext, "b", 1, 0, 0, "Num '('"),
		noReply(msgOf(impl.MsNext, "b", 1, 1), impl.ErrPlace, 1, 0),
		opened("c", " 1"+strings.Repeat("+1", impl.MaxParse/2)),
		asked(impl.MsNext, "c", 1, impl.MaxParse+1, 0, "Num '('"),
		noReply(msgOf(impl.MsNext, "c", 1, impl.MaxParse+2), impl.ErrBad, 1, 0))
	wantServed(t, "the end alone", `language one; All = 'a';`,
		opened("a", "a"),
		asked(impl.MsNext, "a", 1, 1, 0, "."),
		asked(impl.MsNext, "a", 1, 0, 0, "'a'"))
	wantServed(t, "nothing", `language never; All = All 'x';`,
		opened("a", "x"),
		asked(impl.MsNext, "a", 1, 0, 0, ""),
		noReply(msgOf(impl.MsNext, "a", 1, 1), impl.ErrText, 1, 0))
}

func TestServePick(t *testing.T) {
	text := " 10 +(2) % so"
	wantServed(t, "the smallest tree", small,
		opened("a", text),
		asked(impl.MsTree, "a", 1, 0, 0, `(Add (N Ws" " Num"10") Ws" " Lit"+" (E Lit"(" (N Num"2") Lit")") Ws" " Note"% so")`),
		asked(impl.MsPick, "a", 1, 0, 0, "0/0"),
		asked(impl.MsPick, "a", 1, 1, 1, "0/1"),
		asked(impl.MsPick, "a", 1, 2, 1, "0/1"),
		asked(impl.MsPick, "a", 1, 3, 3, "1"),
		asked(impl.MsPick, "a", 1, 4, 4, "2"),
		asked(impl.MsPick, "a", 1, 5, 5, "3/0"),
		asked(impl.MsPick, "a", 1, 6, 6, "3/1/0"),
		asked(impl.MsPick, "a", 1, 7, 7, "3/2"),
		asked(impl.MsPick, "a", 1, 8, 8, "4"),
		asked(impl.MsPick, "a", 1, 9, 9, "5"),
		asked(impl.MsPick, "a", 1, len(text)-1, 9, "5"),
		noReply(msgOf(impl.MsPick, "a", 1, len(text)), impl.ErrPlace, 1, 0),
		noReply(msgOf(impl.MsPick, "a", 1, -1), impl.ErrPlace, 1, 0),
		noReply(msgOf(impl.MsPick, "a", 1, math.MaxInt), impl.ErrPlace, 1, 0),
		noReply(msgOf(impl.MsPick, "a", 1, math.MinInt), impl.ErrPlace, 1, 0),
		noReply(msgOf(impl.MsPick, "a", 2, -1), impl.ErrOld, 1, 0))
	wantServed(t, "a leaf that is the only Kid", small,
		opened("a", "123"),
		asked(impl.MsPick, "a", 1, 0, 0, "0"),
		asked(impl.MsPick, "a", 1, 2, 0, "0"),
		noReply(msgOf(impl.MsPick, "a", 1, 3), impl.ErrPlace, 1, 0))
	wantServed(t, "nodes without a byte", `language gaps; token X ~x~; All = E E X E F X; E = ; F = E E;`,
		opened("a", "xx"),
		asked(impl.MsTree, "a", 1, 0, 0, `(All (E) (E) X"x" (E) (F (E) (E)) X"x")`),
		asked(impl.MsPick, "a", 1, 0, 0, "2"),
		asked(impl.MsPick, "a", 1, 1, 1, "5"))
	wantServed(t, "places of two digits", anyBytes,
		opened("a", "abcdefghijklm"),
		asked(impl.MsPick, "a", 1, 12, 12, "12"))
	wantServed(t, "texts that are not read", small,
		opened("a", "1 1"),
		noReply(msgOf(impl.MsPick, "a", 1, 0), impl.ErrText, 1, 2),
		noReply(msgOf(impl.MsPick, "a", 1, 3), impl.ErrPlace, 1, 0),
		opened("b", "1 + "),
		noReply(msgOf(impl.MsPick, "b", 1, 3), impl.ErrText, 1, 4),
		opened("c", ""),
		noReply(msgOf(impl.MsPick, "c", 1, 0), impl.ErrPlace, 1, 0))
}

func TestServeFormat(t *testing.T) {
	wantServed(t, "set anew", small,
		opened("a", "1+  (2)"),
		setAnew("a", 1, 80, "1 + ( 2 )\n"),
		asked(impl.MsFormat, "a", 2, 80, 0, "1 + ( 2 )\n"),
		setAnew("a", 2, 5, "1\n  +\n  (\n    2\n    )\n"),
		asked(impl.MsFormat, "a", 3, 5, 0, "1\n  +\n  (\n    2\n    )\n"),
		setAnew("a", 3, 0, "1 + ( 2 )\n"),
		asked(impl.MsFormat, "a", 4, impl.MaxWidth, 0, "1 + ( 2 )\n"),
		asked(impl.MsTree, "a", 4, 0, 0, `(Add (N Num"1") Ws" " Lit"+" (E Ws" " Lit"(" (N Ws" " Num"2") Ws" " Lit")") Ws"\010")`),
		noReply(msgOf(impl.MsFormat, "a", 3, 80), impl.ErrOld, 4, 0))
	wantServed(t, "widths that are none", small,
		opened("a", "1+2"),
		noReply(msgOf(impl.MsFormat, "a", 1, -1), impl.ErrBad, 1, 0),
		noReply(msgOf(impl.MsFormat, "a", 1, impl.MaxWidth+1), impl.ErrBad, 1, 0),
		noReply(msgOf(impl.MsFormat, "a", 1, math.MinInt), impl.ErrBad, 1, 0),
		noReply(msgOf(impl.MsFormat, "a", 2, -1), impl.ErrOld, 1, 0),
		didEdit("a", 1, edit(1, 2, " 2"), 2, 1),
		noReply(msgOf(impl.MsFormat, "a", 2, -1), impl.ErrText, 2, 2),
		noReply(msgOf(impl.MsFormat, "a", 2, 80), impl.ErrText, 2, 2))
	wantServed(t, "the empty text", `language blank; skip Ws ~ ~; All = ;`,
		opened("a", ""),
		asked(impl.MsFormat, "a", 1, 80, 0, ""),
		opened("b", "  "),
		setAnew("b", 1, 80, ""),
		asked(impl.MsFormat, "b", 2, 80, 0, ""))
	wantServed(t, "codes of Format", `language forms; token X ~x~; token F ~\n~; All = {X} [F];`,
		opened("a", "x\n"),
		noReply(msgOf(impl.MsFormat, "a", 1, 80), impl.ErrForm, 1, 0),
		opened("b", strings.Repeat("x", 200)),
		noReply(msgOf(impl.MsFormat, "b", 1, 80), impl.ErrFull, 1, 0),
		asked(impl.MsPick, "b", 1, 0, 0, "0"))
}

// A text that is set anew has a blank behind each word but the last: so it can be too long.
func TestServeFormatOfLongTexts(t *testing.T) {
	lang := `language long; token A ~a+~; token B ~b+~; All = {A | B};`
	piece := strings.Repeat("a", impl.MaxLeaf) + strings.Repeat("b", impl.MaxLeaf)
	// Twenty words that don't fit stand on lines of their own, each but the first moved in by two.
	text := strings.Repeat(piece, 10)[:impl.MaxText-1-19*3]
	anew := strings.ReplaceAll(strings.ReplaceAll(text, "ab", "a\n  b"), "ba", "b\n  a") + "\n"
	if len(anew) != impl.MaxText {
		t.Fatal(len(anew))
	}
	wantServed(t, "MaxText bytes and one more", lang,
		opened("a", text),
		setAnew("a", 1, impl.MaxWidth, anew),
		opened("b", text+"b"),
		noReply(msgOf(impl.MsFormat, "b", 1, impl.MaxWidth), impl.ErrFull, 1, 0),
		asked(impl.MsPick, "b", 1, impl.MaxText-1-19*3, 3800, "19"))
}

func TestServeFix(t *testing.T) {
	wantServed(t, "texts that are one", small,
		opened("a", "1 + 2 % so"),
		asked(impl.MsFix, "a", 1, 0, 0, "Num '+' Num"),
		opened("b", "(1)"),
		asked(impl.MsFix, "b", 1, -7, 0, "'(' Num ')'"),
		noReply(msgOf(impl.MsFix, "b", 2, 0), impl.ErrOld, 1, 0))
	wantServed(t, "texts that are none", small,
		opened("a", "1 1"),
		asked(impl.MsFix, "a", 1, 0, 1, "Num"),
		opened("b", ""),
		asked(impl.MsFix, "b", 1, 0, 1, "Num"),
		opened("c", "(1+"),
		asked(impl.MsFix, "c", 1, 0, 2, "'(' Num '+' Num ')'"),
		opened("d", ") ) +"),
		asked(impl.MsFix, "d", 1, 0, 4, "Num"),
		noReply(msgOf(impl.MsTree, "d", 1, 0), impl.ErrText, 1, 0))
	wantServed(t, "codes", small,
		opened("a", "1 ? 2"),
		noReply(msgOf(impl.MsFix, "a", 1, 0), impl.ErrText, 1, 2),
		opened("b", "1"+strings.Repeat("+1", impl.MaxRepair/2)),
		noReply(msgOf(impl.MsFix, "b", 1, 0), impl.ErrBad, 1, 0),
		opened("c", " 1"+strings.Repeat("+1", impl.MaxRepair/2-1)+"+"),
		asked(impl.MsFix, "c", 1, 0, 1, strings.Repeat("Num '+' ", impl.MaxRepair/2)+"Num"),
		opened("d", strings.Repeat("1 ", impl.MaxWords/2)+"1"),
		noReply(msgOf(impl.MsFix, "d", 1, 0), impl.ErrBad, 1, 0))
	wantServed(t, "no word at all", `language never; All = All 'x';`,
		opened("a", "x"),
		noReply(msgOf(impl.MsFix, "a", 1, 0), impl.ErrNone, 1, 0))
	wantServed(t, "nothing to change", `language blank; skip Ws ~ ~; All = ;`,
		opened("a", " "),
		asked(impl.MsFix, "a", 1, 0, 0, ""))
	costly := func(n int) string {
		return "language far; S = T T T T T " + strings.Repeat("'x' ", n) + "; T = " + strings.Repeat("'x' ", 12) + ";"
	}
	wantServed(t, "MaxCost", costly(0),
		opened("a", ""),
		asked(impl.MsFix, "a", 1, 0, impl.MaxCost, strings.TrimSuffix(strings.Repeat("'x' ", impl.MaxCost), " ")))
	wantServed(t, "more than MaxCost", costly(1),
		opened("a", ""),
		noReply(msgOf(impl.MsFix, "a", 1, 0), impl.ErrFull, 1, 0))
}

// Each question by itself, of several documents, with the same and with other texts.
func TestServeSeveralDocuments(t *testing.T) {
	var list []said
	for i := range impl.MaxDocs {
		list = append(list, opened(fmt.Sprintf("d%d", i), fmt.Sprintf("%d+1", i/2)))
	}
	for i := range impl.MaxDocs {
		list = append(list, asked(impl.MsTree, fmt.Sprintf("d%d", i), 1, 0, 0, fmt.Sprintf(`(Add (N Num"%d") Lit"+" (N Num"1"))`, i/2)))
	}
	for i := range impl.MaxDocs {
		doc := fmt.Sprintf("d%d", i)
		list = append(list, setAnew(doc, 1, 80, fmt.Sprintf("%d + 1\n", i/2)), asked(impl.MsFix, doc, 2, 0, 0, "Num '+' Num"))
	}
	for i := range impl.MaxDocs {
		doc := fmt.Sprintf("d%d", impl.MaxDocs-1-i)
		list = append(list, asked(impl.MsPick, doc, 2, 4, 4, "3/1"), didEdit(doc, 1, edit(3, 0, "+9"), 3, 6), closed(doc))
	}
	wantServed(t, "several", small, list...)
}
