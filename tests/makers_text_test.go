package tests

import (
	"fmt"
	"math/rand"
	"slices"
	"strings"
	"testing"

	"loop.example/g00037/impl"
)

func TestEachLine(t *testing.T) {
	for text, ins := range map[string]impl.Ins{
		"push 0\n":        {Op: impl.InPush},
		"push 1000\n":     {Op: impl.InPush, N: 1000},
		"drop 12\n":       {Op: impl.InDrop, N: 12},
		"tell 7\n":        {Op: impl.InTell, N: 7},
		"pass\n":          {Op: impl.InPass},
		"jump 0\n":        {Op: impl.InJump},
		"jump 1\n":        {Op: impl.InJump, To: 1},
		"ifnext 0 1\n":    {Op: impl.InIfNext, To: 1},
		"ifnext 59 0\n":   {Op: impl.InIfNext, N: 59},
		"ifnext 1000 1\n": {Op: impl.InIfNext, N: 1000, To: 1},
		"ifend 0\n":       {Op: impl.InIfEnd},
		"ifend 1\n":       {Op: impl.InIfEnd, To: 1},
		"iftop 0 1\n":     {Op: impl.InIfTop, To: 1},
		"iftop 249 0\n":   {Op: impl.InIfTop, N: 249},
		"done\n":          {Op: impl.InDone},
		"fail 2\n":        {Op: impl.InFail, N: impl.ErrText},
		"fail 4\n":        {Op: impl.InFail, N: impl.ErrPlace},
	} {
		p := []impl.Ins{ins, {Op: impl.InDone}}
		if s, code := impl.ProgramShow(p); s != text+"done\n" || code != impl.OK {
			t.Errorf("%v: %q, code %d", ins, s, code)
		}
		wantRead(t, text+"done\n", p, impl.OK, 0)
		checkText(t, p)
	}
	all := "push 1\ndrop 0\ntell 3\npass\njump 5\nifnext 2 0\nifend 10\niftop 1 9\nfail 2\ndone\nfail 4\n"
	p, code, line := impl.ProgramRead(all)
	if s, shown := impl.ProgramShow(p); s != all || code != impl.OK || line != 0 || shown != impl.OK {
		t.Error(s, code, line, shown)
	}
}

// Promise 27: ProgramRead reads what ProgramShow writes.
func TestProgramsThatAreShownAreRead(t *testing.T) {
	r := rand.New(rand.NewSource(177))
	for range 5000 {
		p := someProgram(r, 30)
		for i := range p {
			if opHasN(p[i].Op) && p[i].Op != impl.InFail {
				p[i].N = oneOf(r, 0, 1, 9, 10, 99, 100, 999, 1000, r.Intn(1001))
			}
		}
		checkText(t, p)
	}
	// Places of five digits.
	long := make([]impl.Ins, 20000)
	for i := range long {
		long[i] = impl.Ins{Op: impl.InIfTop, N: i % 1001, To: r.Intn(len(long))}
	}
	long[len(long)-1] = impl.Ins{Op: impl.InJump, To: 19999}
	checkText(t, long)
}

func TestLongestTextsOfPrograms(t *testing.T) {
	// Lines of eight bytes: as many as there may be are just MaxCode bytes.
	p := slices.Repeat(coded("push 10"), impl.MaxIns)
	p[impl.MaxIns-1] = coded("jump 10")[0]
	s, code := impl.ProgramShow(p)
	if len(s) != impl.MaxCode || code != impl.OK {
		t.Fatal(len(s), code)
	}
	wantRead(t, s, p, impl.OK, 0)
	for _, other := range []string{"push 100", "jump 100", "ifend 99"} {
		more := slices.Clone(p)
		more[7] = coded(other)[0]
		if s, code := impl.ProgramShow(more); s != "" || code != impl.ErrFull {
			t.Error(other, len(s), code)
		}
		wantRead(t, codeText(more), nil, impl.ErrBad, 0)
		// A line that is shorter by as much elsewhere makes room for it.
		more[9] = coded("push 1")[0]
		checkText(t, more)
	}
	// With a fault, too: the length is what counts first.
	wantRead(t, "x"+s[1:], nil, impl.ErrText, 0)
	wantRead(t, "x"+s, nil, impl.ErrBad, 0)
	wantRead(t, strings.Repeat("\n", impl.MaxCode+1), nil, impl.ErrBad, 0)
	wantRead(t, strings.Repeat("\n", impl.MaxCode), nil, impl.ErrText, 0)
	wantRead(t, strings.Repeat("done\n", impl.MaxCode/5), nil, impl.ErrForm, 0)
	wantRead(t, strings.Repeat("done\n", impl.MaxCode/5-1)+"donE\n", nil, impl.ErrText, impl.MaxCode/5-1)
	// As many instructions as there may be, and one more.
	most := slices.Repeat(coded("done"), impl.MaxIns)
	checkText(t, most)
	wantRead(t, codeText(most), most, impl.OK, 0)
	wantRead(t, codeText(most)+"done\n", nil, impl.ErrForm, 0)
}

func TestLinesThatAreNone(t *testing.T) {
	lines := []string{"", " ", "  ", "x", "Done", "DONE", "don", "donee", "done ", " done", "done 0", "done 1", "pass 0", "pass  ", "\tdone", "done\t", "done\r", "done;", "done\x00", "\x00", "\xff",
		"push", "push ", "push  1", "push 1 ", " push 1", "push 1 2", "push 01", "push 00", "push +1", "push -1", "push -0", "push 1.", "push 1e2", "push 0x1", "push 1_0", "push a", "push 1a", "push\t1", "push1", "push 1\t",
		"push 1000000", "push 0000001", "push 9999999", "push 99999999999999999999", "push ١", "push ¹", "push one",
		"drop", "drop -1", "tell", "tell 01", "fail", "fail 02", "fail 2 0", "fail text",
		"jump", "jump 00", "jump 0 0", "jump 1000000", "ifend", "ifend 00", "ifend 0 0", "ifend  0",
		"ifnext", "ifnext 1", "ifnext 1 ", "ifnext  1 0", "ifnext 1  0", "ifnext 1 0 ", "ifnext 1 0 0", "ifnext 01 0", "ifnext 1 00", "ifnext 1 1000000", "ifnext 1000000 1", "ifnext 1,0",
		"iftop", "iftop 1", "iftop 1  0", "iftop 1 0 0", "iftop 1 01", "iftop 01 1", "if 1 0", "iftop1 0", "nop", "push push", "0", "1 push"}
	for _, line := range lines {
		for ahead := range 4 {
			text := strings.Repeat("pass\n", ahead) + line + "\n"
			wantRead(t, text, nil, impl.ErrText, ahead)
			wantRead(t, text+"done\n", nil, impl.ErrText, ahead)
			// Without its line feed it is none either.
			if line != "" {
				wantRead(t, text[:len(text)-1], nil, impl.ErrText, ahead)
			}
			// The first one counts.
			wantRead(t, text+"done\nnone\n", nil, impl.ErrText, ahead)
		}
	}
}

func TestLinesWithoutTheirLineFeed(t *testing.T) {
	for n, text := range []string{"done", "pass\ndone", "pass\npass\ndone", "pass\npass\npass\njump 0"} {
		wantRead(t, text, nil, impl.ErrText, n)
		wantRead(t, text+"\n", append(slices.Repeat(coded("pass"), n), coded(text[strings.LastIndex(text, "\n")+1:])...), impl.OK, 0)
		wantRead(t, text+"\n\n", nil, impl.ErrText, n+1)
		wantRead(t, text+"\n ", nil, impl.ErrText, n+1)
		wantRead(t, "\n"+text+"\n", nil, impl.ErrText, 0)
	}
	wantRead(t, "pass\n\ndone\n", nil, impl.ErrText, 1)
	wantRead(t, "\n", nil, impl.ErrText, 0)
}

// What is read but is no program is ErrForm, whichever line it is.
func TestTextsThatAreNoPrograms(t *testing.T) {
	for _, text := range []string{
		"", "push 1\n", "pass\n", "drop 0\n", "tell 0\n", "ifend 0\n", "iftop 0 0\n", "ifnext 0 0\n", "done\npass\n", "done\npush 1\n",
		"push 1001\ndone\n", "drop 1001\ndone\n", "tell 9999\ndone\n", "push 999999\ndone\n", "ifnext 1001 0\ndone\n", "iftop 100000 0\ndone\n",
		"jump 1\n", "jump 2\ndone\n", "ifend 2\ndone\n", "ifnext 0 2\ndone\n", "iftop 0 2\ndone\n", "jump 999999\n",
		"fail 0\n", "fail 1\n", "fail 3\n", "fail 5\n", "fail 1000\n", "pass\npass\nfail 11\n",
	} {
		wantRead(t, text, nil, impl.ErrForm, 0)
		// A line that is none comes first, also behind.
		wantRead(t, text+"none\n", nil, impl.ErrText, strings.Count(text, "\n"))
	}
}

func TestSpoiltTextsOfPrograms(t *testing.T) {
	r := rand.New(rand.NewSource(178))
	codes := map[int]int{}
	for range 60000 {
		s := []byte(codeText(someProgram(r, 6)))
		for range 1 + r.Intn(2) {
			at := r.Intn(len(s) + 1)
			switch r.Intn(3) {
			case 0:
				s = slices.Insert(s, at, oneOf(r, []byte("01239 \n\tdejopn\x00")...))
			case 1:
				s = append(s[:max(at-1, 0)], s[at:]...)
			case 2:
				s[min(at, len(s)-1)] = oneOf(r, []byte("01239 \n\tdejopn\x00")...)
			}
			if len(s) == 0 {
				break
			}
		}
		want, code, line := readBy(string(s))
		wantRead(t, string(s), want, code, line)
		codes[code]++
		if t.Failed() {
			t.FailNow()
		}
	}
	for _, code := range []int{impl.OK, impl.ErrText, impl.ErrForm} {
		if codes[code] < 500 {
			t.Error(codes)
		}
	}
}

func TestEachByteInALine(t *testing.T) {
	for b := range 256 {
		for _, form := range []string{"%cone\n", "done%c", "push%c1\ndone\n", "push %c\ndone\n", "push 1%c\ndone\n", "%cpass\ndone\n", "pass\n%cdone\n", "pass%cdone\n", "iftop 1%c1\ndone\n"} {
			text := strings.ReplaceAll(form, "%c", string([]byte{byte(b)}))
			want, code, line := readBy(text)
			wantRead(t, text, want, code, line)
		}
	}
}

func TestTextsOfProgramsKeepAndShareNothing(t *testing.T) {
	r := rand.New(rand.NewSource(179))
	for range 500 {
		p := append(make([]impl.Ins, 0, 40), someProgram(r, 12)...)
		kept := slices.Clone(p[:cap(p)])
		s, _ := impl.ProgramShow(p)
		again, _, _ := impl.ProgramRead(s)
		for i := range again[:cap(again)] {
			again[:cap(again)][i] = impl.Ins{Op: -9}
		}
		checkText(t, p)
		if !slices.Equal(p[:cap(p)], kept) {
			t.Fatal("written into", fmt.Sprint(p))
		}
	}
}
