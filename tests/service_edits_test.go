package tests

import (
	"math"
	"math/rand"
	"slices"
	"strings"
	"testing"

	"loop.example/g00037/impl"
)

func wantMoved(t *testing.T, why string, e impl.TextEdit, by impl.TextEdit, wantAt int, wantDel int) {
	t.Helper()
	want := edit(wantAt, wantDel, e.Ins)
	if got, code := impl.MoveEdit(e, by); got != want || code != impl.OK {
		t.Errorf("%s: MoveEdit is at %d of %d by %d, %d and should be at %d of %d", why, got.At, got.Del, len(got.Ins), code, wantAt, wantDel)
	}
	if model := moveBy(e, by); model != want {
		t.Errorf("%s: at %d of %d by the model", why, model.At, model.Del)
	}
}

func TestMoveEditAsWritten(t *testing.T) {
	by := edit(4, 4, "xy")
	in := edit(4, 0, "xyz")
	out := edit(4, 4, "")
	none := edit(4, 0, "")
	for _, test := range []struct {
		why     string
		e       impl.TextEdit
		by      impl.TextEdit
		at, del int
	}{
		{"a begin below B stays", edit(3, 0, "i"), by, 3, 0},
		{"a begin of 0", edit(0, 0, "i"), by, 0, 0},
		{"a begin at B", edit(4, 0, "i"), by, 6, 0},
		{"a begin between", edit(6, 0, "i"), by, 6, 0},
		{"a begin at E", edit(8, 0, "i"), by, 6, 0},
		{"a begin above E", edit(9, 0, "i"), by, 7, 0},
		{"an end below B", edit(1, 2, "i"), by, 1, 2},
		{"an end at B", edit(1, 3, "i"), by, 1, 3},
		{"an end between", edit(1, 5, "i"), by, 1, 3},
		{"an end at E", edit(1, 7, "i"), by, 1, 5},
		{"an end above E", edit(1, 8, "i"), by, 1, 6},
		{"the end comes to lie below the begin, from B on", edit(4, 3, "i"), by, 6, 0},
		{"the end comes to lie below the begin, between", edit(5, 2, "i"), by, 6, 0},
		{"all of it, and no more", edit(4, 4, "i"), by, 6, 0},
		{"from B on, and more", edit(4, 5, "i"), by, 6, 1},
		{"from between on, and more", edit(7, 3, "i"), by, 6, 2},
		{"from E on", edit(8, 2, "i"), by, 6, 2},
		{"from above E on", edit(9, 2, "i"), by, 7, 2},

		{"nothing leaves in by, a begin below", edit(3, 0, "i"), in, 3, 0},
		{"nothing leaves in by, at its place", edit(4, 0, "i"), in, 7, 0},
		{"nothing leaves in by, a begin above", edit(5, 0, "i"), in, 8, 0},
		{"nothing leaves in by, an end at its place", edit(2, 2, "i"), in, 2, 2},
		{"nothing leaves in by, within what leaves", edit(2, 4, "i"), in, 2, 7},
		{"nothing leaves in by, from its place on", edit(4, 2, "i"), in, 7, 2},

		{"nothing comes in by by, a begin below", edit(3, 1, "i"), out, 3, 1},
		{"nothing comes in by by, a begin at B", edit(4, 0, "i"), out, 4, 0},
		{"nothing comes in by by, a begin between", edit(5, 1, "i"), out, 4, 0},
		{"nothing comes in by by, a begin at E", edit(8, 1, "i"), out, 4, 1},
		{"nothing comes in by by, over all of it", edit(3, 6, "i"), out, 3, 2},

		{"by is neither", edit(3, 2, "i"), none, 3, 2},
		{"by is neither, at its place", edit(4, 2, "i"), none, 4, 2},
		{"by is neither, ending at its place", edit(2, 2, "i"), none, 2, 2},

		{"nothing comes in by e", edit(9, 1, ""), by, 7, 1},
		{"e is neither", edit(9, 0, ""), by, 7, 0},
		{"e is neither, at B", edit(4, 0, ""), by, 6, 0},
		{"both are nothing", edit(0, 0, ""), edit(0, 0, ""), 0, 0},
		{"both at 0", edit(0, 0, "i"), edit(0, 0, "abc"), 3, 0},
	} {
		wantMoved(t, test.why, test.e, test.by, test.at, test.del)
	}
}

func TestMoveEditLimits(t *testing.T) {
	most := strings.Repeat("m", impl.MaxText)
	wantMoved(t, "At of MaxText", edit(impl.MaxText, 0, "i"), edit(0, 0, "xy"), impl.MaxText+2, 0)
	wantMoved(t, "Del of MaxText", edit(0, impl.MaxText, "i"), edit(1, 1, "xyz"), 0, impl.MaxText+2)
	wantMoved(t, "At and Del of MaxText", edit(impl.MaxText, impl.MaxText, "i"), edit(impl.MaxText, impl.MaxText, "xy"), impl.MaxText+2, 0)
	wantMoved(t, "At and Del of MaxText, above", edit(impl.MaxText, impl.MaxText, "i"), edit(0, impl.MaxText, ""), 0, impl.MaxText)
	wantMoved(t, "At of MaxText in by", edit(3, 1, "i"), edit(impl.MaxText, 0, "xy"), 3, 1)
	wantMoved(t, "Ins of MaxText bytes", edit(3, 1, most), edit(1, 1, ""), 2, 1)
	wantMoved(t, "Ins of MaxText bytes in by", edit(3, 1, "i"), edit(3, 0, most), impl.MaxText+3, 1)
	for why, wrong := range map[string]impl.TextEdit{
		"At of MaxText + 1": edit(impl.MaxText+1, 0, ""),
		"At of -1":          edit(-1, 0, ""),
		"the highest At":    edit(math.MaxInt, 0, ""),
		"the least At":      edit(math.MinInt, 0, ""),
		"Del of MaxText+1":  edit(0, impl.MaxText+1, ""),
		"Del of -1":         edit(0, -1, ""),
		"the highest Del":   edit(0, math.MaxInt, ""),
		"the least Del":     edit(0, math.MinInt, ""),
		"both highest":      edit(math.MaxInt, math.MaxInt, ""),
		"At and Del of -1":  edit(-1, -1, ""),
		"Ins of one more":   edit(0, 0, most+"m"),
	} {
		for _, right := range []impl.TextEdit{edit(0, 0, ""), edit(3, 4, "abc"), wrong} {
			if e, code := impl.MoveEdit(wrong, right); e != (impl.TextEdit{}) || code != impl.ErrBad {
				t.Errorf("%s in e: %d, at %d", why, code, e.At)
			}
			if e, code := impl.MoveEdit(right, wrong); e != (impl.TextEdit{}) || code != impl.ErrBad {
				t.Errorf("%s in by: %d, at %d", why, code, e.At)
			}
		}
	}
}

// fitting are all edits of a text of so many bytes, with these as what comes in.
func fitting(length int, ins ...string) []impl.TextEdit {
	var list []impl.TextEdit
	for at := range length + 1 {
		for del := range length - at + 1 {
			for _, text := range ins {
				list = append(list, edit(at, del, text))
			}
		}
	}
	return list
}

// leavingBy is which bytes of the text behind by an edit takes away that was made ahead of it: those it took that are still there, and what came in, where that lies within them.
func leavingBy(e impl.TextEdit, by impl.TextEdit, length int) []int {
	var left []int
	came := e.At < by.At && e.At+e.Del > by.At && e.At+e.Del >= by.At+by.Del
	place := 0
	for i := range length + 1 {
		if i == by.At {
			for range by.Ins {
				if came {
					left = append(left, place)
				}
				place++
			}
		}
		if i == length || i >= by.At && i < by.At+by.Del {
			continue
		}
		if i >= e.At && i < e.At+e.Del {
			left = append(left, place)
		}
		place++
	}
	return left
}

// Also that nothing else leaves than what was to leave: each byte is looked at for itself.
func TestMoveEditOfAllSmallOnes(t *testing.T) {
	const length = 7
	for _, by := range fitting(length, "", "x", "xyz") {
		for _, e := range fitting(length, "", "i") {
			got, code := impl.MoveEdit(e, by)
			if want := moveBy(e, by); got != want || code != impl.OK {
				t.Fatalf("%v by %v: %v, %d and should be %v", e, by, got, code, want)
			}
			var taken []int
			for i := range got.Del {
				taken = append(taken, got.At+i)
			}
			if want := leavingBy(e, by, length); !slices.Equal(taken, want) {
				t.Fatalf("%v by %v: %v takes away %d and should take away %d", e, by, got, taken, want)
			}
		}
	}
}

// apart are edits with a byte between them at least.
func apart(a impl.TextEdit, b impl.TextEdit) bool { return a.At+a.Del < b.At || b.At+b.Del < a.At }

// bothDone is what both edits of a text make of it, where they are apart.
func bothDone(text string, a impl.TextEdit, b impl.TextEdit) string {
	if a.At > b.At {
		a, b = b, a
	}
	return text[:a.At] + a.Ins + text[a.At+a.Del:b.At] + b.Ins + text[b.At+b.Del:]
}

// behind does one edit and then another one, which is moved; it tells whether there was room.
func behind(t *testing.T, text string, first impl.TextEdit, then impl.TextEdit) (string, bool) {
	t.Helper()
	moved, code := impl.MoveEdit(then, first)
	if code != impl.OK || moved.Ins != then.Ins {
		t.Fatalf("%v by %v: %v, %d", then, first, moved, code)
	}
	once, code := impl.Edited(text, first)
	if code != impl.OK {
		return "", false
	}
	// One that is moved fits: that there is no room is no fault of its places.
	twice, code := impl.Edited(once, moved)
	if code != impl.OK && code != impl.ErrFull {
		t.Fatalf("%v by %v is %v, which does not fit a text of %d bytes: %d", then, first, moved, len(once), code)
	}
	return twice, code == impl.OK
}

// Promise 29, of all edits of a small text.
func TestTwoEditsOfASmallText(t *testing.T) {
	text := "abcdef"
	met := 0
	for _, a := range fitting(len(text), "", "x", "xyz") {
		for _, b := range fitting(len(text), "", "1", "23") {
			ab, _ := behind(t, text, a, b)
			ba, _ := behind(t, text, b, a)
			if !apart(a, b) {
				continue
			}
			met++
			if want := bothDone(text, a, b); ab != want || ba != want {
				t.Fatalf("%v and %v: %q, the other way %q, and should be %q", a, b, ab, ba, want)
			}
		}
	}
	if met < 400 {
		t.Error(met)
	}
}

// someEdit is one of a text of so many bytes.
func someEdit(r *rand.Rand, length int, ins int) impl.TextEdit {
	at := r.Intn(length + 1)
	return edit(at, r.Intn(length-at+1), strings.Repeat(oneOf(r, "a", "b"), r.Intn(ins+1)))
}

// Promise 29, up to MaxText, also where there is room for none or for one of them only.
func TestTwoEditsOfLargeTexts(t *testing.T) {
	r := rand.New(rand.NewSource(181))
	done, full := 0, 0
	for range 3000 {
		text := strings.Repeat("t", oneOf(r, impl.MaxText, impl.MaxText-1, impl.MaxText-r.Intn(50), r.Intn(impl.MaxText+1)))
		a, b := someEdit(r, len(text), 100), someEdit(r, len(text), 100)
		if r.Intn(2) == 0 {
			a = edit(a.At, min(a.Del, 40), a.Ins)
			b = edit(b.At, min(b.Del, 40), b.Ins)
		}
		ab, abFits := behind(t, text, a, b)
		ba, baFits := behind(t, text, b, a)
		if !abFits || !baFits {
			full++
			continue
		}
		if apart(a, b) {
			done++
			if want := bothDone(text, a, b); ab != want || ba != want {
				t.Fatalf("%v and %v of %d bytes", a, b, len(text))
			}
		}
	}
	if done < 500 || full < 100 {
		t.Error(done, full)
	}
}

// An edit that is moved by several, one behind the other, fits what came of them.
func TestEditsMovedBySeveral(t *testing.T) {
	r := rand.New(rand.NewSource(182))
	for range 3000 {
		text := strings.Repeat("t", r.Intn(12))
		e := someEdit(r, len(text), 3)
		for range 1 + r.Intn(8) {
			by := someEdit(r, len(text), 3)
			text, _ = impl.Edited(text, by)
			var code int
			if e, code = impl.MoveEdit(e, by); code != impl.OK {
				t.Fatal(code)
			}
			if _, code := impl.Edited(text, e); code != impl.OK {
				t.Fatalf("%v does not fit %q: %d", e, text, code)
			}
		}
	}
}

func wantBack(t *testing.T, text string, e impl.TextEdit, want impl.TextEdit) {
	t.Helper()
	if got, code := impl.BackEdit(text, e); got != want || code != impl.OK {
		t.Errorf("BackEdit of %q, %v: %v, %d and should be %v", text, e, got, code, want)
	}
}

func TestBackEditAsWritten(t *testing.T) {
	wantBack(t, "abcd", edit(0, 0, "xy"), edit(0, 2, ""))
	wantBack(t, "abcd", edit(0, 1, "xy"), edit(0, 2, "a"))
	wantBack(t, "abcd", edit(1, 2, "xyz"), edit(1, 3, "bc"))
	wantBack(t, "abcd", edit(4, 0, "xy"), edit(4, 2, ""))
	wantBack(t, "abcd", edit(3, 1, ""), edit(3, 0, "d"))
	wantBack(t, "abcd", edit(0, 4, ""), edit(0, 0, "abcd"))
	wantBack(t, "abcd", edit(0, 4, "x"), edit(0, 1, "abcd"))
	wantBack(t, "abcd", edit(2, 0, ""), edit(2, 0, ""))
	wantBack(t, "", edit(0, 0, ""), edit(0, 0, ""))
	wantBack(t, "", edit(0, 0, "x"), edit(0, 1, ""))
	most := strings.Repeat("m", impl.MaxText)
	wantBack(t, most, edit(0, impl.MaxText, ""), edit(0, 0, most))
	wantBack(t, "", edit(0, 0, most), edit(0, impl.MaxText, ""))
	wantBack(t, most, edit(impl.MaxText, 0, ""), edit(impl.MaxText, 0, ""))
	wantBack(t, most, edit(impl.MaxText-1, 1, "x"), edit(impl.MaxText-1, 1, "m"))
}

// What is taken back is there again, and what takes that back is the edit itself.
func TestBackEditOfAllSmallOnes(t *testing.T) {
	text := "abcde"
	for _, e := range fitting(len(text), "", "x", "bc") {
		back, code := impl.BackEdit(text, e)
		if code != impl.OK {
			t.Fatal(e, code)
		}
		there, _ := impl.Edited(text, e)
		if again, code := impl.Edited(there, back); again != text || code != impl.OK {
			t.Fatalf("%v is taken back by %v: %q, %d", e, back, again, code)
		}
		if forth, code := impl.BackEdit(there, back); forth != e || code != impl.OK {
			t.Fatalf("%v is taken back by %v, and that by %v, %d", e, back, forth, code)
		}
	}
}

func TestBackEditCodes(t *testing.T) {
	most := strings.Repeat("m", impl.MaxText)
	for _, test := range []struct {
		why  string
		text string
		e    impl.TextEdit
		want int
	}{
		{"a text that is too long", most + "m", edit(0, 5, ""), impl.ErrBad},
		{"At below 0", "abcd", edit(-1, 0, ""), impl.ErrBad},
		{"the least At", "abcd", edit(math.MinInt, 0, ""), impl.ErrBad},
		{"At above the length", "abcd", edit(5, 0, ""), impl.ErrBad},
		{"the highest At", "abcd", edit(math.MaxInt, 1, ""), impl.ErrBad},
		{"Del below 0", "abcd", edit(2, -1, ""), impl.ErrBad},
		{"Del of more than there is", "abcd", edit(2, 3, ""), impl.ErrBad},
		{"the highest Del", "abcd", edit(2, math.MaxInt, ""), impl.ErrBad},
		{"no room for one byte more", most, edit(7, 0, "x"), impl.ErrFull},
		{"no room for what comes in", "abcd", edit(4, 0, most[3:]), impl.ErrFull},
		{"Ins that is too long, for all of it", "abcd", edit(0, 4, most+"m"), impl.ErrFull},
		{"At above the length, and no room", "abcd", edit(5, 0, most), impl.ErrBad},
	} {
		if e, code := impl.BackEdit(test.text, test.e); e != (impl.TextEdit{}) || code != test.want {
			t.Errorf("%s: at %d of %d, %d and should be %d", test.why, e.At, e.Del, code, test.want)
		}
		if _, code := impl.Edited(test.text, test.e); code != test.want {
			t.Errorf("%s: Edited is %d", test.why, code)
		}
	}
}
