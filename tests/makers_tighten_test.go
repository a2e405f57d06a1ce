package tests

import (
	"fmt"
	"math/rand"
	"slices"
	"testing"

	"loop.example/g00037/impl"
)

func TestJumpsThatAreLedOn(t *testing.T) {
	wantTight(t, "jumps in a row", "ifend 3; tell 1; done; jump 4; jump 5; jump 6; tell 2; done", "ifend 3; tell 1; done; tell 2; done")
	wantTight(t, "jumps in a row, not in order", "ifend 5; tell 1; done; jump 6; done; jump 3; tell 2; done", "ifend 3; tell 1; done; tell 2; done")
	wantTight(t, "a jump back to a jump", "tell 1; pass; jump 0; done", "tell 1; pass; jump 0")
	wantTight(t, "a jump to a jump back", "ifend 2; jump 4; done; jump 0; jump 3", "ifend 2; jump 0; done")
	for _, test := range []string{"ifnext 3", "ifend", "iftop 3"} {
		wantTight(t, test+" that leads to a jump", test+" 2; done; jump 4; done; tell 1; done", test+" 2; done; tell 1; done")
		wantTight(t, test+" that leads to jumps", test+" 2; done; jump 5; done; done; jump 7; done; tell 1; done", test+" 2; done; tell 1; done")
		wantTight(t, test+" that leads back by a jump", "tell 1; "+test+" 3; done; jump 0", "tell 1; "+test+" 0; done")
		wantTight(t, test+" that leads to itself by a jump", test+" 2; done; jump 0", test+" 0; done")
		wantTight(t, test+" that leads to a test", test+" 2; done; ifend 4; done; fail 2", test+" 2; done; ifend 4; done; fail 2")
	}
}

func TestJumpsThatHaveNoEnd(t *testing.T) {
	wantTight(t, "a jump to itself", "jump 0", "jump 0")
	wantTight(t, "a jump to itself, with others", "tell 1; jump 1; done", "tell 1; jump 1")
	wantTight(t, "two in a circle", "jump 1; jump 0", "jump 0")
	wantTight(t, "two in a circle, the other way", "jump 1; done; jump 1", "done")
	wantTight(t, "a way into a circle", "ifend 2; done; jump 4; done; jump 6; done; jump 4", "ifend 2; done; jump 2")
	wantTight(t, "a circle that is entered in its midst", "tell 1; ifend 4; tell 2; jump 4; jump 5; jump 3", "tell 1; ifend 3; tell 2; jump 3")
	wantTight(t, "a circle whose jumps lead past each other", "tell 1; ifend 4; tell 2; jump 5; jump 3; jump 4", "tell 1; ifend 4; tell 2; jump 5; jump 3; jump 4")
	wantTight(t, "a circle of three", "tell 1; jump 3; jump 1; jump 2", "tell 1; jump 3; jump 1; jump 2")
	// What leads into one stays as it led.
	wantTight(t, "an If to a jump to itself", "ifend 3; tell 1; done; jump 3", "ifend 3; tell 1; done; jump 3")
	wantTight(t, "an If to a circle", "iftop 1 2; done; jump 4; done; jump 2", "iftop 1 2; done; jump 2")
	wantTight(t, "a circle back", "jump 3; jump 3; done; jump 1", "jump 0")
}

func TestWhatIsNotComeTo(t *testing.T) {
	wantTight(t, "behind what ends", "done; tell 1; done", "done")
	wantTight(t, "behind a fail", "fail 4; tell 1; done", "fail 4")
	wantTight(t, "behind a jump", "tell 1; jump 0; tell 2; done", "tell 1; jump 0")
	wantTight(t, "all others are gone on from", "push 1; drop 0; tell 1; pass; done; done", "push 1; drop 0; tell 1; pass; done")
	wantTight(t, "from an If one comes to both", "ifnext 1 3; tell 1; done; fail 2; pass; done", "ifnext 1 3; tell 1; done; fail 2")
	wantTight(t, "from each", "ifnext 1 4; ifend 5; iftop 1 6; done; tell 1; tell 2; tell 3; done; done", "ifnext 1 4; ifend 5; iftop 1 6; done; tell 1; tell 2; tell 3; done")
	wantTight(t, "what only leads to what is come to", "tell 1; done; jump 0; ifend 1; jump 1", "tell 1; done")
	wantTight(t, "what leads to each other, and is not come to", "done; ifend 2; ifend 1; done", "done")
	wantTight(t, "one that is led past", "ifend 3; tell 1; done; jump 5; done; fail 2", "ifend 3; tell 1; done; fail 2")
	wantTight(t, "between, so that numbers are less", "ifend 3; jump 5; tell 9; tell 1; jump 0; pass; jump 3", "ifend 2; jump 4; tell 1; jump 0; pass; jump 2")
}

func TestWhatLeavesForItsTo(t *testing.T) {
	wantTight(t, "a jump right behind", "tell 1; jump 2; tell 2; done", "tell 1; tell 2; done")
	for _, test := range []string{"jump", "ifnext 3", "ifend", "iftop 3"} {
		wantTight(t, test+" to right behind", "tell 1; "+test+" 2; tell 2; done", "tell 1; tell 2; done")
		wantTight(t, test+" to itself", test+" 0; done", map[bool]string{true: "jump 0", false: test + " 0; done"}[test == "jump"])
		wantTight(t, test+" back", "tell 1; "+test+" 0; done", map[bool]string{true: "tell 1; jump 0", false: "tell 1; " + test + " 0; done"}[test == "jump"])
	}
	wantTight(t, "with one that is not come to between", "tell 1; jump 3; fail 2; tell 2; done", "tell 1; tell 2; done")
	wantTight(t, "with one that leaves likewise between", "iftop 1 2; ifend 2; done", "done")
	wantTight(t, "with several between", "iftop 1 4; ifend 3; fail 2; iftop 2 4; tell 1; done", "iftop 1 3; ifend 3; fail 2; tell 1; done")
	wantTight(t, "with several that leave between", "iftop 1 4; jump 3; fail 2; iftop 2 4; tell 1; done", "tell 1; done")
	wantTight(t, "with one between that stays", "iftop 1 2; tell 2; done", "iftop 1 2; tell 2; done")
	wantTight(t, "with one between that leads back", "tell 1; iftop 1 3; ifend 0; done", "tell 1; iftop 1 3; ifend 0; done")
	wantTight(t, "with one between that leads further", "iftop 1 2; ifend 4; tell 1; done; fail 2", "iftop 1 2; ifend 4; tell 1; done; fail 2")
	wantTight(t, "what leads to one that left", "ifend 3; tell 1; done; iftop 1 4; tell 2; done", "ifend 3; tell 1; done; tell 2; done")
	wantTight(t, "what leads to one that left, with others behind it", "ifend 3; tell 1; done; iftop 1 6; ifend 6; iftop 2 6; tell 2; done", "ifend 3; tell 1; done; tell 2; done")
	wantTight(t, "what leads back to one that left", "iftop 1 1; tell 1; jump 0", "tell 1; jump 0")
	wantTight(t, "what leads to several that left", "iftop 1 3; ifend 3; jump 3; tell 1; ifnext 1 0; ifnext 2 1; ifnext 3 2; jump 0", "tell 1; ifnext 1 0; ifnext 2 0; ifnext 3 0; jump 0")
	wantTight(t, "all but the last", "jump 1; ifend 2; iftop 1 3; ifnext 1 4; fail 4", "fail 4")
	// It hangs on what the jumps lead to, not on the jumps.
	wantTight(t, "a jump right behind that leads further", "tell 1; ifend 2; jump 4; fail 2; tell 2; done", "tell 1; tell 2; done")
	wantTight(t, "a jump right behind that leads back", "tell 1; ifend 2; jump 0", "tell 1; ifend 0; jump 0")
}

func TestProgramsThatAreAsGoodAlready(t *testing.T) {
	for _, text := range []string{
		"done", "fail 2", "jump 0", "tell 1; done", "tell 1; jump 0", "ifend 2; done; fail 2", "push 0; ifnext 1 4; ifend 6; fail 2; push 1; pass; done",
		"ifend 0; done", "iftop 1 3; tell 1; done; jump 3",
	} {
		wantTight(t, text, text, text)
	}
}

// smallPrograms are all of so many instructions, each one of these, or a jump or an If to some place.
func smallPrograms(length int, plain ...string) [][]impl.Ins {
	var each []impl.Ins
	for _, text := range plain {
		each = append(each, coded(text)...)
	}
	for to := range length {
		each = append(each, impl.Ins{Op: impl.InJump, To: to}, impl.Ins{Op: impl.InIfEnd, To: to})
	}
	list := [][]impl.Ins{{}}
	for range length {
		var longer [][]impl.Ins
		for _, p := range list {
			for _, ins := range each {
				longer = append(longer, append(slices.Clone(p), ins))
			}
		}
		list = longer
	}
	return slices.DeleteFunc(list, func(p []impl.Ins) bool { return !rightBy(p) })
}

// Promise 27: what is made tighter does the same in no more steps.
func TestAllSmallProgramsAreTightened(t *testing.T) {
	codes := map[int]int{}
	for length, plain := range map[int][]string{1: {"tell 1", "pass", "done"}, 2: {"tell 1", "pass", "done", "fail 2"}, 3: {"tell 1", "pass", "done", "fail 2"}, 4: {"tell 1", "pass", "done"}, 5: {"pass", "done"}} {
		for _, p := range smallPrograms(length, plain...) {
			tighter := checkTight(t, p)
			for _, word := range [][]int{nil, {1}, {1, 1}} {
				codes[doesTheSame(t, p, tighter, word, 30)]++
			}
		}
	}
	for _, code := range []int{impl.OK, impl.ErrText, impl.ErrTired} {
		if codes[code] < 1000 {
			t.Error(codes)
		}
	}
}

func TestManyProgramsAreTightened(t *testing.T) {
	r := rand.New(rand.NewSource(174))
	codes := map[int]int{}
	shorter, fewer := 0, 0
	for range 40000 {
		p := someProgram(r, 2+r.Intn(16))
		tighter := checkTight(t, p)
		shorter += oneFor(len(tighter) < len(p))
		for range 3 {
			word := someWord(r, 3, 4)
			codes[doesTheSame(t, p, tighter, word, 300)]++
			fewer += oneFor(runOf(tighter, word, 300).steps < runOf(p, word, 300).steps)
		}
		checkText(t, tighter)
	}
	for _, code := range []int{impl.OK, impl.ErrText, impl.ErrPlace} {
		if codes[code] < 2000 {
			t.Error(codes)
		}
	}
	if shorter < 5000 || fewer < 2000 {
		t.Error(shorter, fewer)
	}
}

func TestMadeProgramsAreTightened(t *testing.T) {
	r := rand.New(rand.NewSource(175))
	codes := map[int]int{}
	for i, b := range manyRules(1000) {
		table, _, code := impl.TableOf(b, allKinds[i%3])
		if code != impl.OK {
			continue
		}
		if i%4 == 0 {
			table = someTable(r, b, 1+r.Intn(6))
		}
		p, _ := impl.Made(b, table)
		tighter := checkTight(t, p)
		for range 4 {
			word := someWord(r, len(b.Terms), 7)
			codes[doesTheSame(t, p, tighter, word, impl.MaxSteps)]++
			asParseDoes(t, b, table, tighter, word)
		}
	}
	if codes[impl.OK] < 300 || codes[impl.ErrText] < 300 || codes[impl.ErrPlace] < 20 {
		t.Error(codes)
	}
}

func TestLongestProgramsAreTightened(t *testing.T) {
	p := make([]impl.Ins, impl.MaxIns)
	tightened := func(why string, want string) {
		t.Helper()
		if q, code := impl.Tighten(p); !slices.Equal(q, coded(want)) || code != impl.OK {
			t.Errorf("%s: %s, code %d", why, brief(q), code)
		}
	}
	// Each jumps to the next one, or to the one ahead of it.
	for i := range p {
		p[i] = impl.Ins{Op: impl.InJump, To: i + 1}
	}
	p[impl.MaxIns-1] = impl.Ins{Op: impl.InDone}
	tightened("a row", "done")
	p[impl.MaxIns-1] = impl.Ins{Op: impl.InJump}
	tightened("a circle", "jump 0")
	for i := range p {
		p[i] = impl.Ins{Op: impl.InJump, To: max(i-1, 1)}
	}
	p[0], p[1] = impl.Ins{Op: impl.InJump, To: impl.MaxIns - 1}, impl.Ins{Op: impl.InFail, N: impl.ErrPlace}
	tightened("a row back", "fail 4")
	p[1] = impl.Ins{Op: impl.InJump, To: 1}
	// Nothing is led on, and all are come to, from the last to the first: so all stay.
	if q, _ := impl.Tighten(p); !slices.Equal(q, p) {
		t.Error(len(q), brief(q))
	}
	for i := range p {
		p[i] = impl.Ins{Op: impl.InIfEnd, To: impl.MaxIns - 1}
	}
	p[impl.MaxIns-1] = impl.Ins{Op: impl.InDone}
	tightened("all that leads to the last one", "done")
	// None leaves.
	for i := range p[:impl.MaxIns-1] {
		p[i] = impl.Ins{Op: impl.InPush, N: i % 1001}
	}
	if q, code := impl.Tighten(p); !slices.Equal(q, p) || code != impl.OK {
		t.Error(len(q), code)
	}
}

func TestTighteningKeepsAndSharesNothing(t *testing.T) {
	r := rand.New(rand.NewSource(176))
	for range 2000 {
		p := append(make([]impl.Ins, 0, 40), someProgram(r, 12)...)
		kept := slices.Clone(p[:cap(p)])
		q, _ := impl.Tighten(p)
		for i := range q[:cap(q)] {
			q[:cap(q)][i] = impl.Ins{Op: -9, N: -9, To: -9}
		}
		if !slices.Equal(p[:cap(p)], kept) {
			t.Fatal("written into")
		}
		checkTight(t, p)
	}
	// What is as good already is new memory, too.
	p := coded("tell 1; done")
	q, _ := impl.Tighten(p)
	q[0].N = 9
	if p[0].N != 1 {
		t.Error(fmt.Sprint(p))
	}
}
