package tests

import (
	"math/rand"
	"slices"
	"strconv"
	"testing"

	"loop.example/g00037/impl"
)

func TestMergeOfWholeTrees(t *testing.T) {
	for _, x := range []string{`a""`, `(F)`, `(F a"" (G b""))`} {
		wantMerged(t, "all three the same", x, x, x, x)
		wantMerged(t, "mine and yours the same", `(L c"")`, x, x, x)
		wantMerged(t, "mine and yours the same, base a leaf", `a"1"`, x, x, x)
		wantMerged(t, "yours is base", x, `(F b"")`, x, `(F b"")`)
		wantMerged(t, "mine is base", x, x, `(F b"")`, `(F b"")`)
		wantMerged(t, "yours is base, mine a leaf", x, `F"2"`, x, `F"2"`)
		wantMerged(t, "mine is base, yours a leaf", x, x, `F"2"`, `F"2"`)
	}
	for _, x := range []struct{ why, base, mine, yours string }{
		{"leaves of one Name", `a"1"`, `a"2"`, `a"3"`},
		{"leaves of several Names", `a""`, `b""`, `c""`},
		{"base has another Name", `(G a"")`, `(F a"" b"")`, `(F c"" a"")`},
		{"mine has another Name", `(F a"")`, `(G a"")`, `(F a"" b"")`},
		{"yours has another Name", `(F a"")`, `(F a"" b"")`, `(G a"")`},
		{"all have other Names", `(F a"")`, `(G a"")`, `(H a"")`},
		{"base is a leaf", `F""`, `(F a"")`, `(F b"")`},
		{"mine is a leaf", `(F a"")`, `F""`, `(F b"")`},
		{"yours is a leaf", `(F a"")`, `(F b"")`, `F""`},
		{"mine alone is a node", `F"1"`, `(F)`, `F"2"`},
		{"yours alone is a node", `F"1"`, `F"2"`, `(F)`},
		{"base alone is a node", `(F)`, `F"1"`, `F"2"`},
		{"a Name in other letters", `(F a"")`, `(f a"")`, `(F)`},
	} {
		wantMerged(t, x.why, x.base, x.mine, x.yours, x.mine, []int{})
		// And as the only Kid.
		wantMerged(t, x.why+", as a Kid", "(E "+x.base+")", "(E "+x.mine+")", "(E "+x.yours+")", "(E "+x.mine+")", []int{0})
		// And between two that are firm, with one more ahead.
		wantMerged(t, x.why+", between two", `(E k"" `+x.base+` l"")`, `(E k"" `+x.mine+` l"")`, `(E n"" k"" `+x.yours+` l"")`, `(E n"" k"" `+x.mine+` l"")`, []int{2})
	}
}

func TestMergeOfKids(t *testing.T) {
	for _, x := range []struct {
		why, base, mine, yours, want string
		clashes                      [][]int
	}{
		{"all are firm", "ab", "xab", "aybz", "xaybz", nil},
		{"all are firm, mine brings one at each end", "ab", "xabz", "ayb", "xaybz", nil},
		{"some are firm", "abc", "ac", "abcd", "acd", nil},
		{"some are firm, one leaves in each", "abc", "bc", "ab", "b", nil},
		{"none is firm", "a", "b", "c", "b", [][]int{{0}}},
		{"none is firm, several", "ab", "cd", "ef", "cd", [][]int{{0}, {1}}},
		{"none is firm, though each has one", "ab", "a", "b", "a", [][]int{{0}}},
		{"none is firm, all left mine", "ab", "", "b", "", [][]int{{0}}},
		{"none is firm, none was there", "", "a", "b", "a", [][]int{{0}}},
		{"none is firm, none was there, several", "", "ab", "c", "ab", [][]int{{0}, {1}}},
		{"ahead of the first: mine alone", "a", "xya", "az", "xyaz", nil},
		{"ahead of the first: yours alone", "a", "az", "xya", "xyaz", nil},
		{"ahead of the first: both the same", "a", "xya", "xyaz", "xyaz", nil},
		{"ahead of the first: both", "a", "xa", "ya", "xa", [][]int{{0}}},
		{"ahead of the first: both, several", "a", "xya", "za", "xya", [][]int{{0}, {1}}},
		{"between: mine alone", "ab", "axyb", "abz", "axybz", nil},
		{"between: yours alone", "ab", "abz", "axyb", "axybz", nil},
		{"between: both the same", "ab", "axybz", "axyb", "axybz", nil},
		{"between: both", "ab", "axb", "ayzb", "axb", [][]int{{1}}},
		{"between: one each, another one each", "acb", "axb", "ayb", "axb", [][]int{{1}}},
		{"behind the last: mine alone", "a", "axy", "za", "zaxy", nil},
		{"behind the last: yours alone", "a", "za", "axy", "zaxy", nil},
		{"behind the last: both the same", "a", "zaxy", "axy", "zaxy", nil},
		{"behind the last: both", "a", "axy", "az", "axy", [][]int{{1}, {2}}},
		{"base's stretch is empty", "ab", "axb", "ayb", "axb", [][]int{{1}}},
		{"mine's is empty, yours as it was", "acb", "ab", "acbd", "abd", nil},
		{"mine's is empty, yours changed: ahead", "ba", "a", "xa", "a", [][]int{{0}}},
		{"mine's is empty, yours changed: between", "acb", "ab", "axb", "ab", [][]int{{1}}},
		{"mine's is empty, yours changed: behind", "ab", "a", "ax", "a", [][]int{{1}}},
		{"mine's is empty, yours longer", "ab", "a", "abc", "a", [][]int{{1}}},
		{"mine's is empty, and nothing else is there", "b", "", "x", "", [][]int{{0}}},
		{"yours is empty, mine as it was", "acb", "acbd", "ab", "abd", nil},
		{"yours is empty, mine changed", "acb", "axyb", "ab", "axyb", [][]int{{1}, {2}}},
		{"yours is empty, and nothing else is there", "b", "x", "", "x", [][]int{{0}}},
		{"mine's and yours are empty", "acb", "abd", "ab", "abd", nil},
		{"base's and mine's are empty", "ab", "ab", "acb", "acb", nil},
		{"base's and yours are empty", "ab", "acb", "ab", "acb", nil},
		{"places count in what came", "ab", "ax", "pqay", "pqax", [][]int{{3}}},
		{"places count behind a stretch without a tree", "abcd", "acx", "aycz", "acx", [][]int{{1}, {2}}},
		{"several clashes", "abcde", "xbycz", "pbqcr", "xbycz", [][]int{{0}, {2}, {4}}},
		{"each between firm ones", "uavbwc", "xaybzc", "pavbrc", "xaybzc", [][]int{{0}, {4}}},
	} {
		wantMergedFlat(t, x.why, x.base, x.mine, x.yours, x.want, x.clashes...)
	}
}

// wantMergedFlat is told the Kids of nodes, a byte for each leaf.
func wantMergedFlat(t *testing.T, why string, base string, mine string, yours string, want string, clashes ...[]int) {
	t.Helper()
	wantMerged(t, why, written(flat(base)), written(flat(mine)), written(flat(yours)), written(flat(want)), clashes...)
	// Nodes for leaves, further down: the paths begin with the place there.
	lower := func(text string) string {
		x := flat(text)
		for i := range x.Kids {
			x.Kids[i] = node(x.Kids[i].Name, leaf("x", ""))
		}
		return written(node("E", leaf("x", ""), x))
	}
	var paths [][]int
	for _, path := range clashes {
		paths = append(paths, append([]int{1}, path...))
	}
	wantMerged(t, why+", further down", lower(base), lower(mine), lower(yours), lower(want), paths...)
}

// Trees that stand in a list several times: which one is matched can be seen in what comes.
func TestMergeOfTreesThatStandThereSeveralTimes(t *testing.T) {
	for _, x := range []struct {
		why, base, mine, yours, want string
		clashes                      [][]int
	}{
		{"the first of base is matched", "aa", "a", "aab", "a", [][]int{{1}}},
		{"the first of base is matched", "aba", "a", "xaba", "xa", nil},
		{"the first of base is matched", "aa", "xa", "aay", "xa", [][]int{{2}}},
		{"with the first of mine", "a", "aa", "xa", "xaa", nil},
		{"with the first of mine", "a", "axa", "ya", "yaxa", nil},
		{"with the first of mine", "xa", "aba", "yxa", "aba", [][]int{{0}}},
		{"with the first of yours", "xa", "yxa", "aba", "yxaba", [][]int{{0}, {1}}},
		{"matched rather than not", "ab", "ba", "abc", "ba", [][]int{{2}}},
		{"matched rather than not, in yours", "ab", "abc", "ba", "babc", [][]int{{2}, {3}}},
		{"the longest, not the first", "abc", "bca", "abcd", "bca", [][]int{{2}}},
		{"of two as long the one with the first of base", "abcd", "cdab", "xabcd", "cdab", [][]int{{0}, {1}}},
		{"of two as long the one with the first of base", "abcd", "cdab", "abcdx", "cdab", [][]int{{4}}},
		{"one that could be matched but for the longest", "abab", "bab", "xabab", "bab", [][]int{{0}}},
		{"one that could be matched but for the longest", "abab", "bab", "ababx", "babx", nil},
		{"all the same", "aaa", "aa", "aaaa", "aa", [][]int{{2}}},
		{"all the same, more in both", "a", "aa", "aaa", "aa", [][]int{{1}}},
		{"one more in both", "aa", "aaa", "aaa", "aaa", nil},
		{"in pairs", "abab", "ab", "ababx", "ab", [][]int{{2}}},
		{"matched with others in mine and in yours", "ab", "aab", "abb", "aabb", nil},
	} {
		wantMergedFlat(t, x.why, x.base, x.mine, x.yours, x.want, x.clashes...)
	}
}

func TestMergeFurtherDown(t *testing.T) {
	for _, x := range []struct {
		why, base, mine, yours, want string
		clashes                      [][]int
	}{
		{"one each, in one node", `(L (F a"" b"") c"")`, `(L (F x"" a"" b"") c"")`, `(L (F a"" b"" y"") c"")`, `(L (F x"" a"" b"" y"") c"")`, nil},
		{"one each, in two nodes", `(L (F a"") c"" (G b""))`, `(L (F a"" x"") c"" (G b""))`, `(L (F a"") c"" (G b"" y""))`, `(L (F a"" x"") c"" (G b"" y""))`, nil},
		{"at each level", `(L (F k"" (G a"")) b"")`, `(L (F k"" (G x"" a"")) b"" y"")`, `(L (F z"" k"" (G a"")) b"")`, `(L (F z"" k"" (G x"" a"")) b"" y"")`, nil},
		{"at each level, with none that is firm between", `(L (F (G a"")) b"")`, `(L (F (G x"" a"")) b"" y"")`, `(L (F z"" (G a"")) b"")`, `(L (F (G x"" a"")) b"" y"")`, [][]int{{0, 0}}},
		{"a clash in a node", `(L c"" (F a""))`, `(L c"" (F b""))`, `(L c"" (F d""))`, `(L c"" (F b""))`, [][]int{{1, 0}}},
		{"a clash in a node that is moved on", `(L c"" (F a""))`, `(L c"" (F b""))`, `(L x"" y"" c"" (F d""))`, `(L x"" y"" c"" (F b""))`, [][]int{{3, 0}}},
		{"a clash in a node that mine moved on", `(L c"" (F a""))`, `(L x"" y"" c"" (F b""))`, `(L c"" (F d""))`, `(L x"" y"" c"" (F b""))`, [][]int{{3, 0}}},
		{"clashes of several, in order", `(L a"" (F b"") c"" (G d""))`, `(L a"" (F x"") c"" (G y"" z""))`, `(L a"" (F w"") c"" (G v""))`, `(L a"" (F x"") c"" (G y"" z""))`, [][]int{{1, 0}, {3, 0}, {3, 1}}},
		{"clashes high and low, in order", `(L a"" k"" (F b"" m"" (G c"")) n"" d"")`, `(L a"1" k"" (F b"1" m"" (G c"1")) n"" d"1")`, `(L a"2" k"" (F b"2" m"" (G c"2")) n"" d"2")`, `(L a"1" k"" (F b"1" m"" (G c"1")) n"" d"1")`, [][]int{{0}, {2, 0}, {2, 2, 0}, {4}}},
		{"a clash without a tree, in a node", `(L (F a"" b""))`, `(L (F a""))`, `(L (F a"" c""))`, `(L (F a""))`, [][]int{{0, 1}}},
		{"a node that left, and changed", `(L a"" (F b""))`, `(L a"")`, `(L a"" (F c""))`, `(L a"")`, [][]int{{1}}},
		{"a node that changed, and left", `(L a"" (F b""))`, `(L a"" (F c""))`, `(L a"")`, `(L a"" (F c""))`, [][]int{{1}}},
		{"a node that came beside one that changed", `(L (F b""))`, `(L (F c"") (G))`, `(L (F d""))`, `(L (F c"") (G))`, [][]int{{0}, {1}}},
		{"two nodes that changed, without one that is firm", `(L (F a"") (G b""))`, `(L (F x"") (G b""))`, `(L (F a"") (G y""))`, `(L (F x"") (G b""))`, [][]int{{0}, {1}}},
		{"two nodes that changed in one alone", `(L (F a"") (G b""))`, `(L (F x"") (G y""))`, `(L (F a"") (G b""))`, `(L (F x"") (G y""))`, nil},
		{"another Name in one", `(L (F a""))`, `(L (G a""))`, `(L (F b""))`, `(L (G a""))`, [][]int{{0}}},
		{"another Name in both", `(L (F a""))`, `(L (G a""))`, `(L (G a"" b""))`, `(L (G a""))`, [][]int{{0}}},
		{"the same in both, further down", `(L (F a"") x"")`, `(L (F b"") x"" y"")`, `(L (F b"") x"")`, `(L (F b"") x"" y"")`, nil},
	} {
		wantMerged(t, x.why, x.base, x.mine, x.yours, x.want, x.clashes...)
	}
	// As far down as can be, with one that comes at each level.
	base, mine, yours := leaf("a", "1"), leaf("a", "2"), leaf("a", "3")
	for range impl.MaxDepth - 1 {
		base, mine, yours = node("n", base), node("n", leaf("m", ""), mine), node("n", yours, leaf("y", ""))
	}
	merged, clashes := checkMerge(t, base, mine, yours)
	if !sameTree(merged, mine) || !samePaths(clashes, [][]int{{0}, {1}}) {
		t.Error(clashes)
	}
	base, mine, yours = leaf("a", "1"), leaf("a", "2"), leaf("a", "3")
	want, path := leaf("a", "2"), []int{}
	for i := range impl.MaxDepth - 1 {
		f, g := leaf("f", strconv.Itoa(i)), leaf("g", strconv.Itoa(i))
		base, mine, yours = node("n", f, base, g), node("n", leaf("m", ""), f, mine, g), node("n", f, yours, g, leaf("y", ""))
		want, path = node("n", leaf("m", ""), f, want, g, leaf("y", "")), append(path, 2)
	}
	if merged, clashes := checkMerge(t, base, mine, yours); !sameTree(merged, want) || !samePaths(clashes, [][]int{path}) {
		t.Error(written(merged), clashes)
	}
}

// All small trees, and all short lists of leaves.
func TestMergeOfAllSmallTrees(t *testing.T) {
	met := map[bool]int{}
	for _, trees := range [][]impl.Tree{treesUpTo(3, []impl.Tree{leaf("F", ""), leaf("a", "")}, "F"), flatTrees(3, "ab"), flatTrees(2, "abc")} {
		for _, base := range trees {
			for _, mine := range trees {
				for _, yours := range trees {
					_, clashes := checkMerge(t, base, mine, yours)
					met[len(clashes) > 0]++
				}
			}
		}
	}
	if met[true] < 1000 || met[false] < 1000 {
		t.Error(met)
	}
}

// Promise 25, with trees that two made from one.
func TestMergeOfAnyTrees(t *testing.T) {
	r := rand.New(rand.NewSource(155))
	met := map[string]int{}
	for range 20000 {
		base := alikeTree(r, 2+r.Intn(4))
		mine, yours := changed(r, base, 1+r.Intn(3)), changed(r, base, 1+r.Intn(3))
		merged, clashes := checkMerge(t, base, mine, yours)
		low := slices.ContainsFunc(clashes, func(path []int) bool { return len(path) > 1 })
		empty := slices.ContainsFunc(clashes, func(path []int) bool { return !leads(merged, path) })
		met["without a clash"] += oneFor(len(clashes) == 0)
		met["both, without a clash"] += oneFor(len(clashes) == 0 && !sameTree(merged, mine) && !sameTree(merged, yours))
		met["clashes"] += oneFor(len(clashes) > 1)
		met["clashes further down"] += oneFor(low)
		met["a clash at the end that has no tree"] += oneFor(empty)
		met["clashes, and yours too"] += oneFor(len(clashes) > 0 && !sameTree(merged, mine))
	}
	for _, kind := range []string{"without a clash", "both, without a clash", "clashes", "clashes further down", "a clash at the end that has no tree", "clashes, and yours too"} {
		if met[kind] < 100 {
			t.Errorf("%s: only %d", kind, met[kind])
		}
	}
	for range 300 {
		checkMerge(t, alikeTree(r, 4), alikeTree(r, 4), alikeTree(r, 4))
	}
}

// numberedLeaves are n leaves that no other text has.
func numberedLeaves(text string, n int) []impl.Tree {
	var leaves []impl.Tree
	for i := range n {
		leaves = append(leaves, leaf("k", text+strconv.Itoa(i)))
	}
	return leaves
}

func TestMergeTooLarge(t *testing.T) {
	a := leaf("a", "")
	half := impl.MaxNodes/2 - 1
	base, mine := node("n", a), node("n", append(numberedLeaves("m", half), a)...)
	behind := func(n int) impl.Tree { return node("n", append([]impl.Tree{a}, numberedLeaves("y", n)...)...) }
	merged, clashes, code := impl.Merge(base, mine, behind(half))
	if want := node("n", slices.Concat(mine.Kids, numberedLeaves("y", half))...); code != impl.OK || len(clashes) > 0 || !sameTree(merged, want) || len(merged.Kids) != impl.MaxNodes-1 {
		t.Errorf("as many as there may be: %d Kids, %d", len(merged.Kids), code)
	}
	noMerge(t, "one more", base, mine, behind(half+1), impl.ErrFull)
	noMerge(t, "one more, the other way", base, behind(half+1), mine, impl.ErrFull)
	noMerge(t, "as many as can be", base, node("n", append(numberedLeaves("m", impl.MaxNodes-2), a)...), behind(impl.MaxNodes-2), impl.ErrFull)
	// With a clash beside it, which is not told then.
	with := func(x impl.Tree, text string) impl.Tree {
		return node("n", slices.Concat([]impl.Tree{leaf("c", text), leaf("f", "")}, x.Kids)...)
	}
	merged, clashes, code = impl.Merge(with(base, "1"), with(mine, "2"), with(behind(half-2), "3"))
	if code != impl.OK || !samePaths(clashes, [][]int{{0}}) || len(merged.Kids) != impl.MaxNodes-1 {
		t.Errorf("as many as there may be, with a clash: %d Kids, %v, %d", len(merged.Kids), clashes, code)
	}
	noMerge(t, "one more, with a clash", with(base, "1"), with(mine, "2"), with(behind(half-1), "3"), impl.ErrFull)
	// Further down.
	merged, _, code = impl.Merge(node("e", base), node("e", mine), node("e", behind(half-1)))
	if code != impl.OK || len(merged.Kids[0].Kids) != impl.MaxNodes-2 {
		t.Error("as many as there may be, further down", code)
	}
	noMerge(t, "one more, further down", node("e", base), node("e", mine), node("e", behind(half)), impl.ErrFull)
	// What one made alone is as large as it was.
	most := wide(impl.MaxNodes)
	for _, x := range []struct{ base, mine, yours impl.Tree }{{a, most, a}, {a, a, most}, {a, most, most}, {most, most, most}, {a, most, base}} {
		if u, _, code := impl.Merge(x.base, x.mine, x.yours); code != impl.OK || !sameTree(u, most) {
			t.Error("as large as it was", code)
		}
	}
}

func TestMergeOfLargeTrees(t *testing.T) {
	all := impl.MaxNodes - 1
	large := func(text string) impl.Tree { return node("n", numberedLeaves(text, all)...) }
	base := large("b")
	merged, clashes, code := impl.Merge(base, large("m"), large("y"))
	if code != impl.OK || !sameTree(merged, large("m")) || len(clashes) != all || !slices.Equal(clashes[all-1], []int{all - 1}) {
		t.Error("all of mine clashes", code, len(clashes))
	}
	mine, yours, want := large("b"), large("b"), large("b")
	for i := 0; i < all; i += 2 {
		mine.Kids[i], want.Kids[i] = leaf("m", ""), leaf("m", "")
	}
	if merged, clashes, code := impl.Merge(base, mine, yours); code != impl.OK || !sameTree(merged, want) || len(clashes) > 0 {
		t.Error("each second one of mine", code, clashes)
	}
	// Mine and yours have others at places of their own, and sometimes at the same one.
	mine, yours, want = large("b"), large("b"), large("b")
	var wantClashes [][]int
	for i := 0; i+3 < all; i += 4 {
		mine.Kids[i], want.Kids[i] = leaf("m", ""), leaf("m", "")
		yours.Kids[i+2], want.Kids[i+2] = leaf("y", ""), leaf("y", "")
		if i%8 == 0 {
			yours.Kids[i] = leaf("z", "")
			wantClashes = append(wantClashes, []int{i})
		}
	}
	if merged, clashes, code := impl.Merge(base, mine, yours); code != impl.OK || !sameTree(merged, want) || !samePaths(clashes, wantClashes) {
		t.Error("some of both", code, len(clashes), len(wantClashes))
	}
	if merged, clashes, code := impl.Merge(wide(impl.MaxNodes), wide(impl.MaxNodes-1), wide(impl.MaxNodes-3)); code != impl.OK || !sameTree(merged, wide(impl.MaxNodes-1)) || !samePaths(clashes, [][]int{{impl.MaxNodes - 4}, {impl.MaxNodes - 3}}) {
		t.Error("all alike", code, clashes)
	}
}

func TestMergeOfWrongTrees(t *testing.T) {
	right, other := tree(`(E a"" (F b""))`), tree(`(E c"")`)
	full := node("E", numberedLeaves("k", impl.MaxNodes-1)...)
	for why, wrong := range wrongTrees() {
		for _, x := range [][3]impl.Tree{{wrong, right, other}, {right, wrong, other}, {right, other, wrong}, {wrong, wrong, right}, {right, wrong, wrong}, {wrong, right, wrong}, {wrong, wrong, wrong}, {wrong, right, right}, {right, right, wrong}, {right, wrong, right}, {full, wrong, full}, {wrong, full, full}} {
			noMerge(t, why, x[0], x[1], x[2], impl.ErrBad)
		}
	}
}

func TestMergeKeepsAndSharesNothing(t *testing.T) {
	r := rand.New(rand.NewSource(156))
	several := 0
	for range 2000 {
		base := alikeTree(r, 2+r.Intn(4))
		trees := []impl.Tree{base, changed(r, base, r.Intn(4)), changed(r, base, r.Intn(4))}
		given, before := []impl.Tree{}, memory{}
		for _, x := range trees {
			given = append(given, roomy(x))
			before.addTree(given[len(given)-1])
		}
		if r.Intn(4) == 0 {
			given[r.Intn(3)] = given[r.Intn(3)]
			trees = []impl.Tree{copyTree(given[0]), copyTree(given[1]), copyTree(given[2])}
		}
		merged, clashes, _ := impl.Merge(given[0], given[1], given[2])
		answer := memory{}
		answer.addTree(merged)
		answer.addPaths(clashes)
		if !answer.isApart(before) {
			t.Fatalf("Merge of %s, %s and %s shares memory", written(trees[0]), written(trees[1]), written(trees[2]))
		}
		if !sameTrees(given, trees) || !allOfThem(given, sparesKept) {
			t.Fatal("an argument was written to")
		}
		several += oneFor(len(clashes) > 1)
	}
	if several < 100 {
		t.Errorf("only %d had several clashes", several)
	}
}
