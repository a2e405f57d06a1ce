package tests

import (
	"fmt"
	"math/rand"
	"runtime"
	"slices"
	"strings"
	"sync"
	"testing"
	"time"

	"loop.example/g00037/impl"
)

// docNames are names of so many documents.
func docNames(n int) []string {
	var names []string
	for i := range n {
		names = append(names, fmt.Sprintf("doc%d", i))
	}
	return names
}

// onlyOf is what was said of a document, and what was told.
func onlyOf(name string, msgs []impl.Msg, replies []impl.Reply) ([]impl.Msg, []impl.Reply) {
	var own []impl.Msg
	var told []impl.Reply
	for i, m := range msgs {
		if m.Doc == name {
			own = append(own, m)
			told = append(told, replies[i])
		}
	}
	return own, told
}

// Promise 30: each document is told the same when nothing is said of the others.
func TestDocumentsHangOnWhatWasSaidOfThem(t *testing.T) {
	r := rand.New(rand.NewSource(185))
	for _, l := range servedTongues(t) {
		met := map[[2]int]int{}
		for range 12 {
			names := docNames(1 + r.Intn(impl.MaxDocs))
			msgs, replies := someScript(r, l, names, impl.MaxMsgs)
			wantReplies(t, l.source, msgs, replies)
			for _, name := range names {
				own, told := onlyOf(name, msgs, replies)
				wantReplies(t, l.source, own, told)
			}
			for i, m := range msgs {
				met[[2]int{m.Kind, replies[i].Code}]++
			}
		}
		for kind := impl.MsOpen; kind <= impl.MsFix; kind++ {
			if met[[2]int{kind, impl.OK}] < 3 {
				t.Errorf("%s: %d of kind %d are right", l.name, met[[2]int{kind, impl.OK}], kind)
			}
		}
		if met[[2]int{impl.MsEdit, impl.OK}] < 80 || met[[2]int{impl.MsUndo, impl.OK}] < 15 || met[[2]int{impl.MsTree, impl.OK}] < 5 {
			t.Errorf("%s: %v", l.name, met)
		}
	}
}

// More documents than there may be: who is refused hangs on how many there are.
func TestScriptsWithTooManyDocuments(t *testing.T) {
	r := rand.New(rand.NewSource(186))
	for _, l := range servedTongues(t) {
		full := 0
		for range 6 {
			msgs, replies := someScript(r, l, docNames(impl.MaxDocs+6), impl.MaxMsgs)
			wantReplies(t, l.source, msgs, replies)
			for i, m := range msgs {
				if m.Kind == impl.MsOpen && replies[i].Code == impl.ErrFull {
					full++
				}
			}
		}
		if full < 10 {
			t.Errorf("%s: %d", l.name, full)
		}
	}
}

// textsBehind says messages of document a, each of which makes a version, in the language of bytes: where each was done, and the text behind it.
func textsBehind(t *testing.T, msgs []impl.Msg) ([]int, []string) {
	t.Helper()
	var list []impl.Msg
	for i, m := range msgs {
		list = append(list, m, impl.Msg{Kind: impl.MsTree, Doc: "a", Version: i + 1})
	}
	replies, code := impl.Serve(anyBytes, list)
	if code != impl.OK || len(replies) != len(list) {
		t.Fatalf("%d replies, %d", len(replies), code)
	}
	var places []int
	var texts []string
	for i := range msgs {
		done, shown := replies[2*i], replies[2*i+1]
		x, _, _ := impl.TreeRead(shown.Text)
		text, code := impl.TreeYield(x)
		if done.Code != impl.OK || done.Version != i+1 || done.Text != "" || shown.Code != impl.OK || shown.Version != i+1 || code != impl.OK {
			t.Fatalf("%s: %s, then %s", shownMsg(msgs[i]), shownReply(done), shownReply(shown))
		}
		places, texts = append(places, done.At), append(texts, text)
	}
	return places, texts
}

// Promise 30: the text of each version is what its edit makes of the one ahead; two undos give the same again.
func TestTextsAreWhatEditsMake(t *testing.T) {
	r := rand.New(rand.NewSource(187))
	undos, moves := 0, 0
	for range 150 {
		begin := strings.Repeat("abc", r.Intn(4))
		msgs := []impl.Msg{{Kind: impl.MsOpen, Doc: "a", Text: begin}}
		want := []string{begin}
		edits := []impl.TextEdit{{}}
		for version := 1; version < 20; version++ {
			var e impl.TextEdit
			if version > 1 && r.Intn(3) == 0 {
				msgs = append(msgs, impl.Msg{Kind: impl.MsUndo, Doc: "a", Version: version})
				e = undoing(want[version-2], edits[version-1])
				undos++
			} else {
				made := 1 + r.Intn(version)
				e = someEdit(r, len(want[made-1]), 4)
				msgs = append(msgs, editOf("a", made, e))
				for _, by := range edits[made:] {
					e, _ = impl.MoveEdit(e, by)
					moves++
				}
			}
			text, code := editedBy(want[version-1], e)
			if code != impl.OK {
				t.Fatal(code)
			}
			want, edits = append(want, text), append(edits, e)
		}
		last := len(msgs)
		msgs = append(msgs, impl.Msg{Kind: impl.MsUndo, Doc: "a", Version: last}, impl.Msg{Kind: impl.MsUndo, Doc: "a", Version: last + 1})
		places, texts := textsBehind(t, msgs)
		if !slices.Equal(texts[:last], want) {
			t.Fatalf("%v: the texts are %q and should be %q", msgs, texts, want)
		}
		for i := range want {
			if places[i] != edits[i].At {
				t.Fatalf("%v: message %d was done at %d and should be at %d", msgs, i, places[i], edits[i].At)
			}
		}
		if texts[last] != want[last-2] || texts[last+1] != want[last-1] {
			t.Fatalf("%v: behind %q and %q the undos give %q and %q", msgs, want[last-2], want[last-1], texts[last], texts[last+1])
		}
	}
	if undos < 500 || moves < 5000 {
		t.Error(undos, moves)
	}
}

// Promise 30: a question is answered by the text alone, however the document came to it.
func TestQuestionsHangOnTheText(t *testing.T) {
	r := rand.New(rand.NewSource(188))
	for _, l := range servedTongues(t) {
		right := 0
		for range 12 {
			text := l.someText(r, 2+r.Intn(4))
			var questions []impl.Msg
			for _, kind := range []int{impl.MsTree, impl.MsNext, impl.MsPick, impl.MsFix, impl.MsFormat} {
				questions = append(questions, msgOf(kind, "a", 1, r.Intn(len(text)+1)))
			}
			plain, _ := impl.Serve(l.source, append([]impl.Msg{{Kind: impl.MsOpen, Doc: "a", Text: text}}, questions...))
			// The same text, by an edit of another one and by an undo.
			other := []impl.Msg{{Kind: impl.MsOpen, Doc: "a", Text: "?? " + text + "??"}, editOf("a", 1, edit(0, 3, "")), editOf("a", 1, edit(len(text)+3, 2, "")), editOf("a", 3, edit(0, len(text), "")), {Kind: impl.MsUndo, Doc: "a", Version: 4}}
			for i := range questions {
				questions[i].Version = 5
			}
			told, _ := impl.Serve(l.source, append(other, questions...))
			for i := range questions {
				one, two := plain[1+i], told[len(other)+i]
				if two.Version -= 4; one != two {
					t.Fatalf("%s: %q, %s: %s and %s", l.name, text, shownMsg(questions[i]), shownReply(one), shownReply(two))
				}
				if one.Code == impl.OK {
					right++
				}
			}
		}
		if right < 15 {
			t.Errorf("%s: %d", l.name, right)
		}
	}
}

// Promise 14, over whole languages: Relex by their own words, behind edits that a document is told.
func TestWordsBehindEditsInLanguages(t *testing.T) {
	r := rand.New(rand.NewSource(189))
	for _, l := range servedTongues(t) {
		kept := 0
		for range 120 {
			text := l.someText(r, 2+r.Intn(5))
			e := someEdit(r, len(text), 0)
			e = edit(e.At, min(e.Del, r.Intn(5)), l.someIns(r))
			words, stay, code := checkRelex(t, l.rules, text, e)
			replies, _ := impl.Serve(l.source, []impl.Msg{{Kind: impl.MsOpen, Doc: "a", Text: text}, editOf("a", 1, e), {Kind: impl.MsTree, Doc: "a", Version: 2}})
			changed, _ := impl.Edited(text, e)
			if code != impl.OK {
				if _, why, at := impl.Lex(l.rules, changed); why == impl.ErrText && replies[2] != (impl.Reply{Code: why, Version: 2, At: at}) {
					t.Fatalf("%s: %q, %v: %s and should be %d at %d", l.name, text, e, shownReply(replies[2]), why, at)
				}
				continue
			}
			var all string
			for _, w := range words {
				all += w.Text
			}
			if all != changed {
				t.Fatalf("%s: %q, %v: the words are %q and should be %q", l.name, text, e, all, changed)
			}
			old, _, _ := impl.Lex(l.rules, text)
			if !slices.Equal(old[:stay.Front], words[:stay.Front]) || !stays(old[len(old)-stay.Back:], words[len(words)-stay.Back:], e) {
				t.Fatalf("%s: %q, %v: %v do not stay", l.name, text, e, stay)
			}
			kept += stay.Front + stay.Back
			if replies[2].Code == impl.OK {
				x, _, _ := impl.TreeRead(replies[2].Text)
				if yield, _ := impl.TreeYield(x); yield != all {
					t.Fatalf("%s: %q, %v: the tree has %q", l.name, text, e, yield)
				}
			}
		}
		if kept < 100 {
			t.Errorf("%s: %d", l.name, kept)
		}
	}
}

// Promise 23, over whole languages: what the service sets anew has the same tree and notes, and stays as it is.
func TestServiceSetsAnewInLanguages(t *testing.T) {
	r := rand.New(rand.NewSource(190))
	for _, l := range tongues(t) {
		set := 0
		for range 60 {
			text := l.someText(r, 2+r.Intn(7))
			width := oneOf(r, 0, 1+r.Intn(12), 13+r.Intn(20), 80)
			msgs := []impl.Msg{{Kind: impl.MsOpen, Doc: "a", Text: text}, msgOf(impl.MsFormat, "a", 1, width)}
			replies, _ := impl.Serve(l.source, msgs)
			if replies[1].Code != impl.OK {
				continue
			}
			version, anew := replies[1].Version, replies[1].Text
			if (anew == text) != (version == 1) {
				t.Fatalf("%s: %q becomes %q, version %d", l.name, text, anew, version)
			}
			replies, _ = impl.Serve(l.source, append(msgs, msgOf(impl.MsTree, "a", version, 0), msgOf(impl.MsFormat, "a", version, width)))
			if replies[3] != (impl.Reply{Version: version, Text: anew}) {
				t.Fatalf("%s: %q becomes %q, and then %s", l.name, text, anew, shownReply(replies[3]))
			}
			before, _, _ := impl.Reading(l.source, text)
			after, code, _ := impl.TreeRead(replies[2].Text)
			if code != impl.OK || !sameTree(cleaned(l.rules, before), cleaned(l.rules, after)) {
				t.Fatalf("%s: %q becomes %q, whose tree is %s", l.name, text, anew, replies[2].Text)
			}
			set++
		}
		if set < 20 {
			t.Errorf("%s: %d", l.name, set)
		}
	}
}

// However goroutines run, the answer is the same; none runs on behind it.
func TestServeAnswersTheSameAgain(t *testing.T) {
	r := rand.New(rand.NewSource(191))
	ahead := runtime.NumGoroutine()
	processors := runtime.GOMAXPROCS(0)
	defer runtime.GOMAXPROCS(processors)
	for i, l := range servedTongues(t) {
		msgs, replies := someScript(r, l, docNames(impl.MaxDocs+2), impl.MaxMsgs)
		for turn := range 10 {
			runtime.GOMAXPROCS(1 + (i+turn)%4)
			wantReplies(t, l.source, msgs, replies)
		}
		runtime.GOMAXPROCS(processors)
		var group sync.WaitGroup
		for range 6 {
			group.Go(func() {
				if again, code := impl.Serve(l.source, msgs); !slices.Equal(again, replies) || code != impl.OK {
					t.Errorf("%s: other replies, %d", l.name, code)
				}
			})
		}
		group.Wait()
	}
	for range 200 {
		if runtime.NumGoroutine() <= ahead {
			return
		}
		time.Sleep(10 * time.Millisecond)
	}
	t.Errorf("%d goroutines ahead, %d behind", ahead, runtime.NumGoroutine())
}

// What is answered is no argument's, nor another answer's; what is given is left as it was, and the room behind it.
func TestServiceKeepsAndSharesNothing(t *testing.T) {
	l := tongueOf(t, small, map[string][]string{"Num": {"1"}})
	r := rand.New(rand.NewSource(192))
	msgs, want := someScript(r, l, docNames(3), 60)
	spare := impl.Msg{Kind: 77, Doc: "spare"}
	roomyMsgs := append(slices.Clone(msgs), spare)
	given := roomyMsgs[:len(msgs)]
	for range 3 {
		replies, code := impl.Serve(small, given)
		if !slices.Equal(replies, want) || code != impl.OK {
			t.Fatal("other replies")
		}
		replies = replies[:cap(replies)]
		for i := range replies {
			replies[i] = impl.Reply{Code: 77}
		}
		if !slices.Equal(given, msgs) || roomyMsgs[len(msgs)] != spare {
			t.Fatal("an argument was written to")
		}
	}
	for range 3 {
		x, _, _ := checkReading(t, l, "1 + (2 + 3) % so")
		spoil(x)
		names, _, _ := checkComplete(t, l, "(1 ")
		names = names[:cap(names)]
		for i := range names {
			names[i] = "spoilt"
		}
	}
}
