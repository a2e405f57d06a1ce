package tests

import (
	"fmt"
	"math"
	"math/rand"
	"slices"
	"strings"
	"testing"

	"loop.example/g00037/impl"
)

func TestHowManyInstructionsThereMayBe(t *testing.T) {
	noProgram(t, "nil", nil)
	noProgram(t, "no instruction", []impl.Ins{})
	aProgram(t, "one", coded("done"))
	most := make([]impl.Ins, impl.MaxIns+1)
	for i := range most {
		most[i].Op = impl.InPass
	}
	most[impl.MaxIns].Op, most[impl.MaxIns-1].Op = impl.InDone, impl.InDone
	aProgram(t, "one less than as many as there may be", most[2:])
	aProgram(t, "as many as there may be", most[1:])
	noProgram(t, "one more", most)
	most[0] = impl.Ins{Op: impl.InJump, To: impl.MaxIns - 1}
	aProgram(t, "a jump to the last one", most[:impl.MaxIns])
	noProgram(t, "one more, and a jump", most)
	most[0].To = impl.MaxIns
	noProgram(t, "a jump behind the last one", most[:impl.MaxIns])
}

// isOrNot asks that a list is a program, or that it is none.
func isOrNot(t *testing.T, why string, p []impl.Ins, want bool) {
	t.Helper()
	if want {
		aProgram(t, why, p)
	} else {
		noProgram(t, why, p)
	}
}

func TestNumbersOfInstructions(t *testing.T) {
	for _, op := range []int{0, 1, 2, 3, 4, 5, 6, 7, 8, 9, 10, 11, -1, math.MinInt, math.MaxInt} {
		for _, n := range []int{0, 1, 2, 3, 4, 5, 15, 999, 1000, 1001, -1, -2, math.MinInt, math.MaxInt} {
			for _, to := range []int{0, 1, 2, 3, 4, 5, -1, math.MinInt, math.MaxInt} {
				for place := range 4 {
					p := coded("done; push 1; pass; done")
					p[place] = impl.Ins{Op: op, N: n, To: to}
					isOrNot(t, fmt.Sprint(p[place], " at ", place), p, rightBy(p))
				}
			}
		}
	}
}

func TestProgramsThatAreNone(t *testing.T) {
	ahead := func(ins impl.Ins) []impl.Ins { return append([]impl.Ins{ins}, coded("pass; done")...) }
	for _, op := range []int{0, 11, -1} {
		noProgram(t, fmt.Sprint("Op ", op), ahead(impl.Ins{Op: op}))
	}
	for _, op := range allOps {
		name, isFail := opWords[op], op == impl.InFail
		ins := impl.Ins{Op: op, N: impl.ErrText * oneFor(isFail)}
		for to, want := range map[int]bool{0: true, 2: opHasTo(op), 3: false, -1: false} {
			ins.To = to
			isOrNot(t, fmt.Sprint(name, " to ", to), ahead(ins), want)
		}
		ins.To = 0
		isOrNot(t, name+" at the end", append(coded("pass"), ins), op == impl.InJump || op == impl.InDone || isFail)
		isOrNot(t, name+" alone", []impl.Ins{ins}, op == impl.InJump || op == impl.InDone || isFail)
		for n, want := range map[int]bool{0: !isFail, 1: opHasN(op) && !isFail, 1000: opHasN(op) && !isFail, 1001: false, -1: false} {
			ins.N = n
			isOrNot(t, fmt.Sprint(name, " with ", n), ahead(ins), want)
		}
	}
	for n, want := range map[int]bool{impl.OK: false, impl.ErrBad: false, impl.ErrText: true, impl.ErrFull: false, impl.ErrPlace: true, impl.ErrTwice: false, impl.ErrLoop: false, impl.ErrTired: false, impl.ErrOld: false} {
		isOrNot(t, fmt.Sprint("fail ", n), ahead(impl.Ins{Op: impl.InFail, N: n}), want)
	}
	// Each one counts, wherever it stands.
	for place := range 9 {
		p := coded("push 1; tell 1; drop 0; pass; ifend 6; jump 0; iftop 1 0; ifnext 1 0; done")
		aProgram(t, "one of all", p)
		p[place].Op = 11
		noProgram(t, fmt.Sprint("a wrong one at ", place), p)
	}
}

func TestEachInstructionByItself(t *testing.T) {
	for _, x := range []struct {
		text string
		word []int
		want ran
	}{
		{"done", nil, ran{nil, impl.OK, 0, 1}},
		{"done", []int{1, 2}, ran{nil, impl.OK, 0, 1}},
		{"fail 2", []int{1}, ran{nil, impl.ErrText, 0, 1}},
		{"fail 4", []int{1}, ran{nil, impl.ErrPlace, 0, 1}},
		{"push 7; iftop 7 3; fail 4; done", nil, ran{nil, impl.OK, 0, 3}},
		{"push 7; push 8; iftop 7 4; done; fail 4", nil, ran{nil, impl.OK, 0, 4}},
		{"push 7; push 8; iftop 8 4; fail 4; done", nil, ran{nil, impl.OK, 0, 4}},
		{"tell 5; done", nil, ran{[]int{5}, impl.OK, 0, 2}},
		{"tell 5; tell 0; tell 1000; tell 5; done", nil, ran{[]int{5, 0, 1000, 5}, impl.OK, 0, 5}},
		{"pass; done", []int{3}, ran{nil, impl.OK, 1, 2}},
		{"pass; pass; done", []int{3, 4, 5}, ran{nil, impl.OK, 2, 3}},
		{"jump 2; fail 2; tell 1; done", nil, ran{[]int{1}, impl.OK, 0, 3}},
		{"tell 1; jump 3; jump 5; ifend 2; fail 2; done", nil, ran{[]int{1}, impl.OK, 0, 5}},
		{"ifnext 3 2; fail 2; done", []int{3}, ran{nil, impl.OK, 0, 2}},
		{"ifnext 3 2; fail 2; done", []int{4}, ran{nil, impl.ErrText, 0, 2}},
		{"pass; ifnext 3 3; fail 2; done", []int{4, 3}, ran{nil, impl.OK, 1, 3}},
		{"pass; ifnext 4 3; fail 2; done", []int{4, 3}, ran{nil, impl.ErrText, 1, 3}},
		{"ifend 2; fail 2; done", nil, ran{nil, impl.OK, 0, 2}},
		{"ifend 2; fail 2; done", []int{0}, ran{nil, impl.ErrText, 0, 2}},
		{"pass; ifend 3; fail 2; done", []int{0}, ran{nil, impl.OK, 1, 3}},
		{"push 1; drop 0; iftop 1 4; fail 2; done", nil, ran{nil, impl.OK, 0, 4}},
	} {
		wantRan(t, coded(x.text), x.word, 100, x.want)
	}
}

func TestDrops(t *testing.T) {
	wantRan(t, coded("drop 0; done"), []int{1}, 9, ran{nil, impl.ErrPlace, 0, 1})
	wantRan(t, coded("drop 1; done"), []int{1}, 9, ran{nil, impl.ErrPlace, 0, 1})
	wantRan(t, coded("drop 1000; done"), []int{1}, 9, ran{nil, impl.ErrPlace, 0, 1})
	three := "tell 9; pass; push 1; push 2; push 3; "
	// As many as there are, and one more.
	wantRan(t, coded(three+"drop 3; done"), []int{1}, 99, ran{[]int{9}, impl.ErrPlace, 1, 6})
	wantRan(t, coded(three+"drop 4; done"), []int{1}, 99, ran{[]int{9}, impl.ErrPlace, 1, 6})
	// One less, two less and none: what is left is the first ones.
	wantRan(t, coded(three+"drop 2; iftop 1 8; fail 2; done"), []int{1}, 99, ran{[]int{9}, impl.OK, 1, 8})
	wantRan(t, coded(three+"drop 1; iftop 2 8; fail 2; done"), []int{1}, 99, ran{[]int{9}, impl.OK, 1, 8})
	wantRan(t, coded(three+"drop 0; iftop 3 8; fail 2; done"), []int{1}, 99, ran{[]int{9}, impl.OK, 1, 8})
	// What is put on then stands behind what was left.
	wantRan(t, coded(three+"drop 2; push 5; drop 1; iftop 1 10; fail 2; done"), []int{1}, 99, ran{[]int{9}, impl.OK, 1, 10})
}

func TestTheWordsEnd(t *testing.T) {
	wantRan(t, coded("pass; done"), nil, 9, ran{nil, impl.ErrText, 0, 1})
	wantRan(t, coded("tell 4; pass; pass; pass; done"), []int{5, 6}, 9, ran{[]int{4}, impl.ErrText, 2, 4})
	// There is no terminal there, whatever N is.
	for n := range 4 {
		wantRan(t, coded(fmt.Sprintf("pass; ifnext %d 3; done; fail 2", n)), []int{0}, 9, ran{nil, impl.OK, 1, 3})
	}
}

func TestTheTopOfAnEmptyPile(t *testing.T) {
	for _, n := range []int{0, 1, 1000} {
		wantRan(t, coded(fmt.Sprintf("iftop %d 2; done; fail 4", n)), nil, 9, ran{nil, impl.OK, 0, 2})
	}
}

func TestFuelOfPrograms(t *testing.T) {
	for text, steps := range map[string]int{"done": 1, "tell 1; done": 2, "pass; tell 1; jump 3; fail 4": 4, "pass; pass; done": 2, "drop 0; done": 1} {
		p, word := coded(text), []int{1}
		enough := ranBy(p, word, 100)
		if enough.steps != steps {
			t.Fatal(text, enough)
		}
		for _, fuel := range []int{steps, steps + 1, impl.MaxSteps} {
			wantRan(t, p, word, fuel, enough)
		}
		tired := ranBy(p, word, steps-1)
		if tired.code != impl.ErrTired || tired.steps != steps-1 {
			t.Fatal(text, tired)
		}
		wantRan(t, p, word, steps-1, tired)
		wantRan(t, p, word, 0, ran{nil, impl.ErrTired, 0, 0})
		for _, fuel := range []int{-1, impl.MaxSteps + 1, math.MinInt, math.MaxInt} {
			noRun(t, fmt.Sprint(text, " with fuel ", fuel), p, word, fuel)
		}
	}
	// What was told and where it stands is told of one that is tired, too.
	wantRan(t, coded("tell 1; pass; tell 2; pass; done"), []int{8, 8, 8}, 4, ran{[]int{1, 2}, impl.ErrTired, 2, 4})
	wantRan(t, coded("tell 1; pass; tell 2; pass; done"), []int{8, 8, 8}, 3, ran{[]int{1, 2}, impl.ErrTired, 1, 3})
}

func TestProgramsWithoutAnEnd(t *testing.T) {
	for _, fuel := range []int{0, 1, 2, 999, impl.MaxSteps - 1, impl.MaxSteps} {
		wantRan(t, coded("jump 0"), nil, fuel, ran{nil, impl.ErrTired, 0, fuel})
		wantRan(t, coded("jump 1; jump 2; jump 0"), []int{1}, fuel, ran{nil, impl.ErrTired, 0, fuel})
	}
	// It goes round with the pile as it was, as often as it may.
	wantRan(t, coded("tell 3; pass; push 1; push 2; drop 1; jump 3"), []int{0}, impl.MaxSteps, ran{[]int{3}, impl.ErrTired, 1, impl.MaxSteps})
}

// manyThen is a program of n instructions of one kind, and some others.
func manyThen(n int, ins impl.Ins, then string) []impl.Ins {
	return append(slices.Repeat([]impl.Ins{ins}, n), coded(then)...)
}

func TestAsManyNumbersAsThereMayBe(t *testing.T) {
	push, tell := impl.Ins{Op: impl.InPush, N: 6}, impl.Ins{Op: impl.InTell, N: 6}
	sixes := slices.Repeat([]int{6}, impl.MaxPile)
	most := impl.MaxPile
	// On the pile.
	wantRan(t, manyThen(most, push, "tell 1; done"), nil, impl.MaxSteps, ran{[]int{1}, impl.OK, 0, most + 2})
	wantRan(t, manyThen(most, push, "tell 1; push 0; done"), nil, impl.MaxSteps, ran{[]int{1}, impl.ErrFull, 0, most + 2})
	wantRan(t, manyThen(most, push, "pass; push 6; done"), []int{9}, impl.MaxSteps, ran{nil, impl.ErrFull, 1, most + 2})
	// When one has left there is room for one.
	wantRan(t, manyThen(most, push, "drop 1; push 6; done"), nil, impl.MaxSteps, ran{nil, impl.OK, 0, most + 3})
	wantRan(t, manyThen(most, push, "drop 1; push 6; push 6; done"), nil, impl.MaxSteps, ran{nil, impl.ErrFull, 0, most + 3})
	// In what is told.
	wantRan(t, manyThen(most, tell, "done"), nil, impl.MaxSteps, ran{sixes, impl.OK, 0, most + 1})
	wantRan(t, manyThen(most, tell, "tell 6; done"), nil, impl.MaxSteps, ran{sixes, impl.ErrFull, 0, most + 1})
	wantRan(t, manyThen(most, tell, "pass; tell 0; done"), []int{9}, impl.MaxSteps, ran{sixes, impl.ErrFull, 1, most + 2})
	// Each for itself.
	both := append(manyThen(most, push, "tell 6"), manyThen(most-1, tell, "done")...)
	wantRan(t, both, nil, impl.MaxSteps, ran{sixes, impl.OK, 0, 2*most + 1})
	// Going round, and with fuel that ends just there.
	wantRan(t, coded("push 1; jump 0"), nil, 2*most, ran{nil, impl.ErrTired, 0, 2 * most})
	wantRan(t, coded("push 1; jump 0"), nil, 2*most+1, ran{nil, impl.ErrFull, 0, 2*most + 1})
	wantRan(t, coded("tell 6; jump 0"), nil, 2*most, ran{sixes, impl.ErrTired, 0, 2 * most})
	wantRan(t, coded("tell 6; jump 0"), nil, 2*most+1, ran{sixes, impl.ErrFull, 0, 2*most + 1})
}

func TestWordsOfPrograms(t *testing.T) {
	p := coded("ifend 3; pass; jump 0; done")
	word := make([]int, impl.MaxParse+1)
	wantRan(t, p, word[1:], impl.MaxSteps, ran{nil, impl.OK, impl.MaxParse, 3*impl.MaxParse + 2})
	noRun(t, "a word of one more", p, word, impl.MaxSteps)
	for _, below := range []int{-1, math.MinInt} {
		for _, word := range [][]int{{below}, {0, below}, {below, 0}, {0, 0, below}} {
			noRun(t, fmt.Sprint(word), p, word, 9)
			// Also where it would not come as far.
			noRun(t, fmt.Sprint(word), coded("done"), word, 9)
		}
	}
	// There is no highest terminal.
	for _, number := range []int{0, 1000, 1001, math.MaxInt} {
		wantRan(t, p, []int{number, number}, 99, ran{nil, impl.OK, 2, 8})
	}
	wantRan(t, coded("ifnext 1000 2; fail 2; done"), []int{1001}, 99, ran{nil, impl.ErrText, 0, 2})
}

// All that is wrong is told as ErrBad, ahead of what would come of running it.
func TestRunsOfWrongInputs(t *testing.T) {
	bad := []impl.Ins{{Op: impl.InFail, N: impl.ErrText}, {Op: impl.InPush}}
	long := make([]int, impl.MaxParse+1)
	for _, p := range [][]impl.Ins{nil, bad, coded("tell 1; fail 2")} {
		for _, word := range [][]int{nil, {-1}, long} {
			for _, fuel := range []int{0, 9, -1, impl.MaxSteps + 1} {
				if rightBy(p) && word == nil && fuel >= 0 && fuel <= impl.MaxSteps {
					continue
				}
				noRun(t, fmt.Sprint(brief(p), len(word), " ", fuel), p, word, fuel)
			}
		}
	}
}

func TestManyProgramsRun(t *testing.T) {
	r := rand.New(rand.NewSource(17))
	codes := map[int]int{}
	for range 60000 {
		p, word, fuel := someProgram(r, 12), someWord(r, 3, 4), oneOf(r, 3, 20, 200)
		want := ranBy(p, word, fuel)
		wantRan(t, p, word, fuel, want)
		codes[want.code]++
		if t.Failed() {
			t.FailNow()
		}
	}
	for _, code := range []int{impl.OK, impl.ErrText, impl.ErrPlace, impl.ErrTired} {
		if codes[code] < 2000 {
			t.Error(codes)
		}
	}
}

func TestRunsKeepAndShareNothing(t *testing.T) {
	r := rand.New(rand.NewSource(171))
	for range 2000 {
		room := append(make([]impl.Ins, 0, 40), someProgram(r, 12)...)
		word := append(make([]int, 0, 20), someWord(r, 3, 4)...)
		kept, keptWord := slices.Clone(room[:cap(room)]), slices.Clone(word[:cap(word)])
		got := runOf(room, word, 100)
		want := got
		want.told = slices.Clone(got.told)
		spoilLists(got.told)
		wantRan(t, room, word, 100, want)
		impl.ProgramOK(room)
		if !slices.Equal(room[:cap(room)], kept) || !slices.Equal(word[:cap(word)], keptWord) {
			t.Fatal("written into")
		}
	}
}

// A program that counts what a word has of each of two terminals: the pile is as high as there are more of the one.
func TestAProgramForPairs(t *testing.T) {
	p := coded(strings.Join([]string{
		"push 9", "ifnext 0 5", "ifnext 1 8", "ifend 11", "fail 2",
		"push 1; pass; jump 1",
		"drop 1; pass; jump 1",
		"iftop 9 13; fail 4", "tell 7; done",
	}, ";"))
	aProgram(t, "pairs", p)
	for _, word := range allWords(2, 8) {
		high := 0
		want := impl.OK
		for _, term := range termList(word) {
			if high += 1 - 2*term; high < 0 {
				want = impl.ErrPlace
				break
			}
		}
		if high > 0 {
			want = impl.ErrPlace
		}
		if got := runOf(p, termList(word), 1000); got.code != want || want == impl.OK && (got.place != len(word) || !slices.Equal(got.told, []int{7})) {
			t.Fatalf("%v: %v, and should be code %d", termList(word), got, want)
		}
	}
}
