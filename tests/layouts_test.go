package tests

import (
	"math"
	"slices"
	"strings"
	"sync"
	"testing"

	"loop.example/g00037/impl"
)

func TestLayoutsThatAreRight(t *testing.T) {
	for why, d := range map[string][]impl.LNode{
		"a text":            {lText("a b")},
		"an empty text":     {lText("")},
		"any byte but 10":   {lText(everyByte(0, 10) + everyByte(11, 128))},
		"bytes above 127":   {lText(everyByte(128, 256))},
		"a line":            {lLine()},
		"a soft line":       {lSoft()},
		"a hard line":       {lHard()},
		"nothing":           {lCat()},
		"a nest of nothing": {lCat(), lNest(0, 0)},
		"a group":           {lCat(), lGroup(0)},
		"kids of all kinds": {lText("a"), lLine(), lSoft(), lHard(), lCat(), lNest(3, 4), lCat(), lGroup(6), lCat(7, 5, 3, 2, 1, 0)},
		"kids anyhow":       {lText("a"), lText("b"), lNest(1, 0), lText("c"), lNest(2, 1), lCat(4, 3, 2)},
	} {
		isLayout(t, why, d)
	}
	for _, d := range someLayouts(31, 400, 12) {
		isLayout(t, layText(d), d)
	}
}

func TestLayoutsThatAreNot(t *testing.T) {
	for why, d := range map[string][]impl.LNode{
		"no nodes":                       {},
		"nil":                            nil,
		"a line feed in a text":          {lText("a\nb")},
		"a line feed alone":              {lText("\n")},
		"a line feed at the end":         {lText("a\n")},
		"a kid behind its node":          {lCat(1), lText("a"), lCat(0)},
		"a kid that is the node":         {lText("a"), lCat(0, 1), lCat(1)},
		"the last one its own kid":       {lText("a"), lCat(0, 1)},
		"the last one its kid alone":     {lCat(0)},
		"the last one an early one's":    {lCat(2), lText("a"), lCat(0, 1)},
		"two that hold each other":       {lCat(1), lCat(0), lText("a")},
		"the kid of none":                {lText("a"), lText("b"), lCat(1)},
		"the kid of none, last but one":  {lText("a"), lText("b"), lCat(0)},
		"no kid, and not the last":       {lText("a"), lText("b")},
		"the kid of two":                 {lText("a"), lCat(0), lCat(0, 1)},
		"the kid of two groups":          {lText("a"), lGroup(0), lGroup(0), lCat(1, 2)},
		"the kid of one twice":           {lText("a"), lCat(0, 0)},
		"the kid of one twice, apart":    {lText("a"), lText("b"), lCat(0, 1, 0)},
		"a kid below 0":                  {lText("a"), lCat(-1)},
		"a kid below 0, too":             {lText("a"), lCat(0, -1)},
		"a kid far below 0":              {lText("a"), lCat(0, math.MinInt)},
		"a kid above all":                {lText("a"), lCat(0, 2)},
		"a kid far above all":            {lText("a"), lCat(0, math.MaxInt)},
		"a nest without kid":             {lNest(1)},
		"a nest with two":                {lText("a"), lText("b"), lNest(1, 0, 1)},
		"a group without kid":            {lGroup()},
		"a group with two":               {lText("a"), lText("b"), lGroup(0, 1)},
		"no kind":                        {{}},
		"kind 8":                         {{Kind: 8}},
		"kind -1":                        {{Kind: -1}},
		"kind 8 of a kid":                {{Kind: 8}, lCat(0)},
		"a kind far above all":           {{Kind: math.MaxInt}},
		"a text with a number":           {{Kind: impl.LyText, S: "a", N: 1}},
		"a text with a kid":              {lText("a"), {Kind: impl.LyText, S: "b", Kids: []int{0}}},
		"a line with a text":             {{Kind: impl.LyLine, S: " "}},
		"a line with a number":           {{Kind: impl.LyLine, N: 1}},
		"a line with a kid":              {lText("a"), {Kind: impl.LyLine, Kids: []int{0}}},
		"a soft line with a text":        {{Kind: impl.LySoft, S: " "}},
		"a soft line with a number":      {{Kind: impl.LySoft, N: -1}},
		"a soft line with a kid":         {lText("a"), {Kind: impl.LySoft, Kids: []int{0}}},
		"a hard line with a text":        {{Kind: impl.LyHard, S: "a"}},
		"a hard line with a number":      {{Kind: impl.LyHard, N: 2}},
		"a hard line with a kid":         {lText("a"), {Kind: impl.LyHard, Kids: []int{0}}},
		"a nest with a text":             {lText("a"), {Kind: impl.LyNest, S: "a", Kids: []int{0}}},
		"a group with a text":            {lText("a"), {Kind: impl.LyGroup, S: "a", Kids: []int{0}}},
		"a group with a number":          {lText("a"), {Kind: impl.LyGroup, N: 1, Kids: []int{0}}},
		"a cat with a text":              {lText("a"), {Kind: impl.LyCat, S: "a", Kids: []int{0}}},
		"a cat with a number":            {lText("a"), {Kind: impl.LyCat, N: 1, Kids: []int{0}}},
		"a cat without kids, a number":   {{Kind: impl.LyCat, N: 1}},
		"more kids than there are nodes": {lText("a"), lCat(slices.Repeat([]int{0}, 1000)...)},
		"a nest below 0":                 {lText("a"), lNest(-1, 0)},
		"a nest far below 0":             {lText("a"), lNest(math.MinInt, 0)},
		"a nest far above the limit":     {lText("a"), lNest(math.MaxInt, 0)},
	} {
		noLayout(t, why, d)
	}
}

// catOf has n nodes, of which the first ones are all kids of the last.
func catOf(n int, one impl.LNode) []impl.LNode {
	d := slices.Repeat([]impl.LNode{one}, n-1)
	all := lCat()
	for i := range d {
		all.Kids = append(all.Kids, i)
	}
	return append(d, all)
}

// towerOf has nodes of one kind, each around the one ahead, and a text in them.
func towerOf(n int, around impl.LNode) []impl.LNode {
	d := []impl.LNode{lText("x")}
	for i := range n {
		around.Kids = []int{i}
		d = append(d, around)
	}
	return d
}

func TestLimitsOfLayouts(t *testing.T) {
	isLayout(t, "MaxLay nodes side by side", catOf(impl.MaxLay, lText("a")))
	noLayout(t, "one node more", catOf(impl.MaxLay+1, lText("a")))
	noLayout(t, "many nodes more", catOf(100000, lText("a")))
	isLayout(t, "MaxLay nodes one in the other", towerOf(impl.MaxLay-1, lNest(impl.MaxIndent)))
	noLayout(t, "one nest more", towerOf(impl.MaxLay, lNest(impl.MaxIndent)))
	isLayout(t, "MaxLeaf bytes", []impl.LNode{lText(strings.Repeat("a", impl.MaxLeaf))})
	noLayout(t, "one byte more", []impl.LNode{lText(strings.Repeat("a", impl.MaxLeaf+1))})
	isLayout(t, "MaxIndent", []impl.LNode{lHard(), lNest(impl.MaxIndent, 0)})
	isLayout(t, "no indent", []impl.LNode{lHard(), lNest(0, 0)})
	noLayout(t, "one blank more", []impl.LNode{lHard(), lNest(impl.MaxIndent+1, 0)})
	noLayout(t, "one blank less than none", []impl.LNode{lHard(), lNest(-1, 0)})
	isLayout(t, "MaxGroups one in the other", towerOf(impl.MaxGroups, lGroup()))
	noLayout(t, "one group more", towerOf(impl.MaxGroups+1, lGroup()))
	isLayout(t, "MaxGroups side by side", layout(strings.Repeat("<a_b>", impl.MaxGroups)))
	noLayout(t, "one group more beside", layout(strings.Repeat("<a_b>", impl.MaxGroups+1)))
	noLayout(t, "groups alone", towerOf(impl.MaxLay-1, lGroup()))
}

func TestWidthsOfLayouts(t *testing.T) {
	d := layout("<aa_b>")
	for _, width := range []int{0, 1, impl.MaxWidth - 1, impl.MaxWidth} {
		checkLayout(t, d, width)
	}
	for _, width := range []int{-1, impl.MaxWidth + 1, math.MinInt, math.MaxInt} {
		if text, over, code := impl.Layout(d, width); text != "" || over != 0 || code != impl.ErrBad {
			t.Errorf("Layout to %d: %q, %d, %d", width, text, over, code)
		}
	}
	// A line of MaxWidth bytes fits, one of one more does not.
	long := strings.Repeat("<"+strings.Repeat("a", 99)+"_>", 10)
	wantBest(t, "the widest", layout(long[:len(long)-2]+"a>"), impl.MaxWidth, strings.Repeat(strings.Repeat("a", 99)+" ", 9)+strings.Repeat("a", 100), 0)
	flat := strings.Repeat(strings.Repeat("a", 99)+" ", 10)
	wantBest(t, "one more", layout(long+"a"), impl.MaxWidth, flat[:len(flat)-1]+"\na", 0)
}

func TestSet(t *testing.T) {
	for _, test := range []struct{ why, lay, choice, want string }{
		{"a text", "ab", "", "ab"},
		{"texts", "a[b[]c]d", "", "abcd"},
		{"nothing", "", "", ""},
		{"a line in no group", "a_b", "", "a\nb"},
		{"a soft line in no group", "a.b", "", "a\nb"},
		{"a hard line in no group", "a!b", "", "a\nb"},
		{"lines in no group, moved in", "{3 a_b.c!d}_e", "", "a\n   b\n   c\n   d\ne"},
		{"a line beside a group", "a_<b_c>.d", "f", "a\nb c\nd"},
		{"a line beside a broken one", "a_<b_c>.d", "b", "a\nb\nc\nd"},
		{"a flat group", "<a_b.c>", "f", "a bc"},
		{"a broken group", "<a_b.c>", "b", "a\nb\nc"},
		{"a hard line in a flat group", "<a_b!c_d>", "f", "a b\nc d"},
		{"a hard line in a flat group, moved in", "{1 <{2 a_b!c_d}>!e}", "f", "a b\n   c d\n e"},
		{"a hard line in a broken group", "<a_b!c_d>", "b", "a\nb\nc\nd"},
		{"a broken group within a flat one", "<a_<b_c>.d>", "bf", "a b cd"},
		{"a flat group within a flat one", "<a_<b_c>.d>", "ff", "a b cd"},
		{"a flat group within a broken one", "<a_<b_c>.d>", "fb", "a\nb c\nd"},
		{"broken groups one in the other", "<a_<b_c>.d>", "bb", "a\nb\nc\nd"},
		{"a broken one, a flat one around, a broken one around", "<a_<b_<c_d>>>", "bfb", "a\nb c d"},
		{"a hard line in flat ones", "<a_<b!c_d>>", "bf", "a b\nc d"},
		{"the second of two", "<a_b><c_d>", "fb", "a bc\nd"},
		{"the first of two", "<a_b><c_d>", "bf", "a\nbc d"},
		{"nests together", "a{1 _b{2 _c{4 _d}_e}_f}_g", "", "a\n b\n   c\n       d\n   e\n f\ng"},
		{"a nest around a group", "{2 <a_{3 b_c}>}", "b", "a\n  b\n     c"},
		{"a nest around a flat group", "{2 <a_{3 b_c}>}", "f", "a b c"},
		{"a nest without a line", "{7 a}", "", "a"},
		{"a nest of a line alone", "{7 _}", "", "\n       "},
		{"blanks at the ends of lines stay", "a _ b _{2 _}", "", "a \n b \n\n  "},
		{"flat lines alone", "<_._>", "f", "  "},
		{"a group of nothing", "a<>b", "b", "ab"},
	} {
		wantSet(t, test.why, layout(test.lay), test.choice, test.want)
	}
	most := []impl.LNode{lHard()}
	for i := range impl.MaxLay - 1 {
		most = append(most, lNest(impl.MaxIndent, i))
	}
	wantSet(t, "the most blanks", most, "", "\n"+strings.Repeat(" ", impl.MaxIndent*(impl.MaxLay-1)))
}

// The groups count in the order of the nodes, which need not be that of the text.
func TestSetGoesByTheOrderOfNodes(t *testing.T) {
	d := []impl.LNode{lLine(), lGroup(0), lText("a"), lLine(), lGroup(3), lText("b"), lText("c"), lCat(2, 4, 5, 1, 6)}
	wantSet(t, "the second in the text is the first of the nodes", d, "bf", "a b\nc")
	wantSet(t, "the first in the text is the second of the nodes", d, "fb", "a\nb c")
	wantBest(t, "flat ahead of broken by the nodes", d, 3, "a\nb c", 0)
}

func TestSetWithWrongLists(t *testing.T) {
	for _, test := range []struct {
		lay     string
		lengths []int
	}{{"a_b", []int{1, 2, 13}}, {"<a_b>", []int{0, 2, 1000}}, {"<a_<b_c>>", []int{0, 1, 3}}, {strings.Repeat("<_>", impl.MaxGroups), []int{0, impl.MaxGroups - 1, impl.MaxGroups + 1}}} {
		for _, length := range test.lengths {
			for _, broken := range [][]bool{make([]bool, length), slices.Repeat([]bool{true}, length)} {
				if text, code := impl.Set(layout(test.lay), broken); text != "" || code != impl.ErrPlace {
					t.Errorf("Set of %s with %d: %q, %d", test.lay, length, text, code)
				}
			}
		}
	}
}

func TestSetOfMany(t *testing.T) {
	texts := 0
	for _, d := range someLayouts(32, 600, 5) {
		for _, choice := range choicesOf(groupCount(d)) {
			if text, code := impl.Set(d, choice); text != setBy(d, choice) || code != impl.OK {
				t.Fatalf("Set of %s, %v: %q, %d and should be %q", layText(d), choice, text, code, setBy(d, choice))
			}
			texts++
		}
	}
	if texts < 2000 {
		t.Error(texts)
	}
}

func TestLayout(t *testing.T) {
	for _, test := range []struct {
		why, lay string
		width    int
		want     string
		over     int
	}{
		{"nothing", "", 0, "", 0},
		{"no group", "a_b", 0, "a\nb", 2},
		{"no group, though it would fit", "a_b", 80, "a\nb", 0},
		{"it fits", "<aa_b>", 4, "aa b", 0},
		{"it does not fit", "<aa_b>", 3, "aa\nb", 0},
		{"width 0: a line feed has no byte", "<aa_b>", 0, "aa\nb", 3},
		{"width 0: as much by blanks ahead", "<aa{1 _b}>", 0, "aa b", 4},
		{"width 0 of nothing", "<>", 0, "", 0},
		{"width 0 of soft lines", "<a.b>", 0, "ab", 2},
		{"too long whatever is chosen", "<aaaa_bbbbbb>", 3, "aaaa\nbbbbbb", 4},
		{"too long, and less so when flat", "<a{9 _bb}>", 3, "a bb", 1},
		{"too long, and less so when broken", "<aaa{2 _bb}_c>", 3, "aaa\n  bb\nc", 1},
		{"as much whatever is chosen, and fewer line feeds", "<aaaaa!b_c>", 3, "aaaaa\nb c", 2},
		{"the least overflow ahead of line feeds", "<aa_b_c_d>", 4, "aa\nb\nc\nd", 0},
		{"the inner one alone", "<a_<bb_c>>", 4, "a\nbb c", 0},
		{"both", "<a_<bb_c>>", 2, "a\nbb\nc", 0},
		{"the outer one, as it is flat with all in it", "<a_<bb_c>>", 6, "a bb c", 0},
		{"the second of two, since flat is ahead", "<a_b><c_d>", 4, "a bc\nd", 0},
		{"the last of three", "<a_b><c_d><e_f>", 7, "a bc de\nf", 0},
		{"two of three", "<aa_bb><cc_dd><ee_ff>", 7, "aa bbcc\nddee ff", 0},
		{"both of two, since none alone would do", "<a_b><ccccc_d>", 6, "a\nbccccc\nd", 0},
		{"the second of two, which fits", "<a_bbb><c_d>", 6, "a bbbc\nd", 0},
		{"the first of two, since the second alone would not do", "<aaa_b><c_d>", 4, "aaa\nbc d", 0},
		{"the first of two, with fewer line feeds than the second", "<aa_b><c_d_e>", 7, "aa\nbc d e", 0},
		{"blanks at the ends of lines count", "<aa _b>", 4, "aa \nb", 0},
		{"blanks that end a flat group count", "<aaa_>", 3, "aaa\n", 0},
		{"blanks that are all of a line count", "<aa{3 _}>", 2, "aa ", 1},
		{"a hard line parts what must fit", "<aa_bb!cc_dd>", 5, "aa bb\ncc dd", 0},
		{"a hard line within, and one part too long", "<aa_bb!cc_ddd>", 5, "aa\nbb\ncc\nddd", 0},
		{"both of two, though it does not fit so", "<aaaa_b><cc_dd>", 3, "aaaa\nbcc\ndd", 1},
	} {
		wantBest(t, test.why, layout(test.lay), test.width, test.want, test.over)
	}
}

func TestLayoutsOfMany(t *testing.T) {
	broken, tight := 0, 0
	for i, d := range someLayouts(33, 900, 6) {
		for _, width := range []int{0, 1 + i%4, 5 + i%9, 14 + i%20, 80} {
			text, over := checkLayout(t, d, width)
			all, _ := impl.Set(d, make([]bool, groupCount(d)))
			if text != all {
				broken++
			}
			if over > 0 {
				tight++
			}
		}
	}
	if broken < 300 || tight < 300 {
		t.Error(broken, tight)
	}
}

// All choices of MaxGroups groups are looked at, and each of them can be the best.
func TestEachOfManyChoicesCanBeTheBest(t *testing.T) {
	for number, choice := range choicesOf(impl.MaxGroups) {
		if number%37 != 0 && number < 1<<impl.MaxGroups-40 && number > 40 {
			continue
		}
		// A line of its own for each group: of those that are to be broken one that fits only so.
		lays, want := "", ""
		for _, broken := range choice {
			if broken {
				lays += "<aaaa_bbb>!"
				want += "aaaa\nbbb\n"
				continue
			}
			lays += "<aaa_bbb>!"
			want += "aaa bbb\n"
		}
		if text, over, code := impl.Layout(layout(lays), 7); text != want || over != 0 || code != impl.OK {
			t.Fatalf("%v: %q, %d, %d", choice, text, over, code)
		}
	}
	one := strings.Repeat("<a_b>", impl.MaxGroups)
	for width := range 50 {
		checkLayout(t, layout(one), width)
	}
}

func TestLargestLayouts(t *testing.T) {
	// Groups one in the other, far moved in, with lines.
	lays := strings.Repeat("<{20 aaa_", impl.MaxGroups) + strings.Repeat("{20 ", 110) + strings.Repeat("_b", 40) + strings.Repeat("}", 110) + strings.Repeat("}>", impl.MaxGroups)
	d := layout(lays)
	isLayout(t, "moved in far", d)
	if len(d) < impl.MaxLay-60 {
		t.Error(len(d))
	}
	flat := strings.Repeat("aaa ", impl.MaxGroups) + strings.Repeat(" b", 40)
	for _, width := range []int{0, 40, impl.MaxWidth} {
		if text, over, code := impl.Layout(d, width); text != flat || over != overBy(flat, width) || code != impl.OK {
			t.Errorf("to %d: %q, %d, %d", width, text, over, code)
		}
	}
	long := catOf(impl.MaxLay, lText(strings.Repeat("a", impl.MaxLeaf)))
	want := strings.Repeat("a", impl.MaxLeaf*(impl.MaxLay-1))
	if text, over, code := impl.Layout(long, 10); text != want || over != len(want)-10 || code != impl.OK {
		t.Error(len(text), over, code)
	}
}

func TestLayoutsWriteNowhere(t *testing.T) {
	d := make([]impl.LNode, 0, 200)
	for _, one := range layout("<a_<b_c>{2 .d!e}>") {
		kids := make([]int, 0, 20)
		one.Kids = append(kids, one.Kids...)
		d = append(d, one)
	}
	spare := d[:cap(d)]
	was := copyLayout(spare)
	broken := append(make([]bool, 0, 20), true, true)
	for range 3 {
		impl.LayoutOK(d)
		impl.Set(d, broken)
		impl.Layout(d, 3)
	}
	if !sameLayout(spare, was) {
		t.Error("a layout was written into")
	}
	for _, one := range d {
		if slices.ContainsFunc(one.Kids[len(one.Kids):cap(one.Kids)], func(kid int) bool { return kid != 0 }) {
			t.Error("behind the kids was written")
		}
	}
	if !slices.Equal(broken[:20], append([]bool{true, true}, make([]bool, 18)...)) {
		t.Error("a choice was written into")
	}
}

// Many that ask at the same time get the same.
func TestLayoutsAtOnce(t *testing.T) {
	d := layout(strings.Repeat("<aa_<b_c>>", 6))
	want, over := bestBy(d, 9)
	var asked sync.WaitGroup
	for range 20 {
		asked.Go(func() {
			for range 5 {
				if text, itsOver, code := impl.Layout(d, 9); text != want || itsOver != over || code != impl.OK {
					t.Errorf("%q, %d, %d and should be %q, %d", text, itsOver, code, want, over)
				}
			}
		})
	}
	asked.Wait()
}
