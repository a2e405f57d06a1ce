package tests

import (
	"math/rand"
	"strconv"
	"strings"
	"testing"

	"loop.example/g00037/impl"
)

func TestDiff(t *testing.T) {
	for _, x := range []struct {
		why, a, b, want string
		cost            int
	}{
		{"a tree and itself", `a""`, `a""`, `=`, 0},
		{"a tree and itself", `a"x"`, `a"x"`, `=`, 0},
		{"a tree and itself", `(F)`, `(F)`, `=`, 0},
		{"a tree and itself", `(F a"1" (G b"2" (H)))`, `(F a"1" (G b"2" (H)))`, `=`, 0},
		{"a leaf and a node", `F""`, `(F)`, `!(F)`, 2},
		{"a leaf and a node", `F""`, `(F a"" (G))`, `!(F a"" (G))`, 4},
		{"a node and a leaf", `(F)`, `F""`, `!F""`, 2},
		{"a node and a leaf", `(F a"" (G b""))`, `F"x"`, `!F"x"`, 5},
		{"two leaves of one Name", `a"1"`, `a"2"`, `!a"2"`, 2},
		{"two leaves of one Name", `a""`, `a"1"`, `!a"1"`, 2},
		{"two leaves of several", `a"1"`, `b"1"`, `!b"1"`, 2},
		{"two leaves of several", `a""`, `A""`, `!A""`, 2},
		{"two nodes of one Name", `(F a"")`, `(F b"")`, `(!b"")`, 2},
		{"two nodes of one Name", `(F a"" b"" c"")`, `(F a"" x"" c"")`, `(=!x""=)`, 2},
		{"two nodes of one Name", `(F a"" b"" c"")`, `(F c"")`, `(--=)`, 2},
		{"two nodes of several", `(F)`, `(G)`, `!(G)`, 2},
		{"two nodes of several", `(F a"" b"" c"")`, `(f a"" b"" c"")`, `!(f a"" b"" c"")`, 8},
		{"two Kids of several", `(E (F a"" b""))`, `(E (G a"" b""))`, `(!(G a"" b""))`, 6},
		{"no Kids on one side", `(F)`, `(F a"" (G b""))`, `(<a""<(G b""))`, 3},
		{"no Kids on the other", `(F a"" (G b""))`, `(F)`, `(--)`, 3},
		{"no Kids on one side, further down", `(F (G))`, `(F (G a""))`, `((<a""))`, 1},
		{"no Kids on the other, further down", `(F (G a"" b""))`, `(F (G))`, `((--))`, 2},
		{"no Kids on both, further down", `(F (G) (H))`, `(F (H) (G))`, `(-=<(G))`, 2},
		{"no Kids on both, of several Names", `(F (G))`, `(F (H))`, `(!(H))`, 2},
		{"what leaves is large", `(F (G a"" b"" c"") d"")`, `(F d"")`, `(-=)`, 4},
		{"what comes in is large", `(F d"")`, `(F d"" (G a"" b"" c""))`, `(=<(G a"" b"" c""))`, 4},
		{"changes at several places", `(E (F a"" b"") c"" (G d""))`, `(E (F b"") c"" (G d"" e"") f"")`, `((-=)=(=<e"")<f"")`, 3},
		{"a Kid that went further down", `(E a"" b"")`, `(E (F a"") b"")`, `(!(F a"")=)`, 3},
		{"a Kid that came up", `(E (F a""))`, `(E a"")`, `(!a"")`, 3},
		{"a node around it", `(F a"")`, `(F (F a""))`, `(!(F a""))`, 3},
		{"a node less around it", `(F (F (F a"")))`, `(F (F a""))`, `((!a""))`, 3},
	} {
		wantDiff(t, x.why, tree(x.a), tree(x.b), x.want, x.cost)
	}
}

func TestDiffOfSeveralThatCostTheSame(t *testing.T) {
	for _, x := range []struct {
		why, a, b, want string
		cost            int
	}{
		{"the first of those that are the same stays", `(F a"" a"")`, `(F a"")`, `(=-)`, 1},
		{"the first of those that are the same stays", `(F a"" b"" a"")`, `(F a"")`, `(=--)`, 2},
		{"the first of those that are the same stays", `(F b"" a"" a"")`, `(F a"")`, `(-=-)`, 2},
		{"it stays as the first", `(F a"")`, `(F a"" a"")`, `(=<a"")`, 1},
		{"it stays as the first", `(F a"")`, `(F b"" a"" a"")`, `(<b""=<a"")`, 2},
		{"the Kid anew, not out and in", `(F a"")`, `(F b"")`, `(!b"")`, 2},
		{"the Kid anew, not out and in", `(F a"" b"")`, `(F c"" d"")`, `(!c""!d"")`, 4},
		{"the first Kid anew, then out", `(F a"" b"")`, `(F c"")`, `(!c""-)`, 3},
		{"the Kid anew first, then in", `(F a"")`, `(F b"" c"")`, `(!b""<c"")`, 3},
		{"out ahead of in", `(F a"" b"")`, `(F b"" a"")`, `(-=<a"")`, 2},
		{"out ahead of in", `(F a"" b"" c"")`, `(F c"" a"" b"")`, `(<c""==-)`, 2},
		{"out ahead of in", `(F a"" b"" c"")`, `(F b"" c"" a"")`, `(-==<a"")`, 2},
		{"out ahead of in", `(F a"" b"" c"" d"")`, `(F c"" d"" a"" b"")`, `(--==<a""<b"")`, 4},
		{"out ahead of in, behind one that stays", `(F x"" a"" b"")`, `(F x"" b"" a"")`, `(=-=<a"")`, 2},
		{"one that stays costs the same as two anew", `(F a"" b"")`, `(F b"" c"")`, `(-=<c"")`, 2},
		{"Kids done to the first, then out", `(F (G a"") (G a""))`, `(F (G b""))`, `((!b"")-)`, 4},
		{"Kids done to the one, then in", `(F (G b""))`, `(F (G a"") (G a""))`, `((!a"")<(G a""))`, 4},
		{"Kids done to the last when that is less", `(F (G a"") (G b""))`, `(F (G b"" c""))`, `(-(=<c""))`, 3},
		{"within a Kid: the first stays", `(F (G a"" a""))`, `(F (G a""))`, `((=-))`, 1},
		{"within a Kid: out ahead of in", `(F (G a"" b"") c"")`, `(F (G b"" a"") c"")`, `((-=<a"")=)`, 2},
		{"within a Kid: anew ahead of out", `(F c"" (G a"" b""))`, `(F c"" (G x""))`, `(=(!x""-))`, 3},
		{"within a Kid's Kid", `(F (G (H a"" b"") x""))`, `(F (G (H b"" a"") x""))`, `(((-=<a"")=))`, 2},
		{"within two Kids", `(F (G a"" b"") (G a"" a""))`, `(F (G b"" a"") (G a""))`, `((-=<a"")(=-))`, 3},
		{"the first Kid the whole of the next one", `(F (G a"") b"")`, `(F b"" (G a""))`, `(<b""=-)`, 2},
		{"done to the next Kid, though another one is nearer", `(F (G a"") (G b""))`, `(F (G c"") (G c""))`, `((!c"")(!c""))`, 4},
		{"the first leaves when that costs less", `(F (G a"" b"") (G c""))`, `(F (G c"" d""))`, `(-(=<d""))`, 4},
		{"the first leaves when that costs less", `(F (G a"") (G c"" d""))`, `(F (G c""))`, `(-(=-))`, 3},
		{"done to the next Kid, though the one behind it is the same", `(F (G a"" b"") (G))`, `(F (G))`, `((--)-)`, 3},
		{"done to the Kid, though the one behind is the same", `(F (G))`, `(F (G a"" b"") (G))`, `((<a""<b"")<(G))`, 3},
		{"done to each next Kid", `(F (G a"") (G) (G))`, `(F (G) (G))`, `((-)=-)`, 2},
	} {
		wantDiff(t, x.why, tree(x.a), tree(x.b), x.want, x.cost)
	}
}

// All changes of small trees are gone through, whatever they cost.
func TestDiffIsTheFirstOfAllLeastChanges(t *testing.T) {
	leaves := []impl.Tree{leaf("F", ""), leaf("F", "x")}
	for _, trees := range [][]impl.Tree{treesUpTo(3, leaves, "F", "G"), treesUpTo(4, leaves[:1], "F"), flatTrees(3, "abc"), flatTrees(4, "ab")} {
		for _, a := range trees {
			for _, b := range trees {
				least, cost := firstLeast(a, b)
				wantDiff(t, "all changes", a, b, deltaText(least), cost)
			}
		}
	}
}

// Promise 24, with trees of which one was made from the other, and with any two.
func TestPatchDoesWhatDiffSays(t *testing.T) {
	r := rand.New(rand.NewSource(151))
	met := map[string]int{}
	for range 6000 {
		a := alikeTree(r, 1+r.Intn(5))
		b := changed(r, a, r.Intn(5))
		if r.Intn(4) == 0 {
			b = alikeTree(r, 1+r.Intn(5))
		}
		best := differing{}.best(a, b)
		d, cost := checkDiff(t, a, b)
		if deltaText(d) != deltaText(best.delta) || cost != best.cost {
			t.Fatalf("from %s to %s: %s at %d and should be %s at %d", written(a), written(b), deltaText(d), cost, deltaText(best.delta), best.cost)
		}
		met[deltaText(d)[:1]]++
		met["several changes"] += oneFor(d.Kind == impl.DlKids && cost > 4)
		if d, cost, code := impl.Diff(a, copyTree(a)); d.Kind != impl.DlSame || deltaText(d) != "=" || cost != 0 || code != impl.OK {
			t.Fatalf("%s and itself: %s, %d, %d", written(a), deltaText(d), cost, code)
		}
	}
	for _, kind := range []string{"=", "!", "(", "several changes"} {
		if met[kind] < 300 {
			t.Errorf("%s: only %d", kind, met[kind])
		}
	}
}

// deepWith is as deep as can be, with x at its lowest place, and a leaf on either side of each node.
func deepWith(x impl.Tree, sides bool) impl.Tree {
	for range impl.MaxDepth - 1 {
		if sides {
			x = node("n", leaf("l", ""), x, leaf("r", ""))
		} else {
			x = node("n", x)
		}
	}
	return x
}

func TestDiffFarDown(t *testing.T) {
	down := func(open string, what string, shut string) string {
		return strings.Repeat(open, impl.MaxDepth-1) + what + strings.Repeat(shut, impl.MaxDepth-1)
	}
	for _, x := range []struct {
		a, b impl.Tree
		what string
	}{
		{leaf("a", ""), leaf("b", ""), `!b""`}, {leaf("a", "1"), leaf("a", "2"), `!a"2"`}, {node("a"), node("b"), `!(b)`}, {node("a"), leaf("a", ""), `!a""`},
	} {
		wantDiff(t, "far down", deepWith(x.a, false), deepWith(x.b, false), down("(", x.what, ")"), 2)
		wantDiff(t, "far down", deepWith(x.a, true), deepWith(x.b, true), down("(=", x.what, "=)"), 2)
	}
	a, b := deep(impl.MaxDepth), deep(impl.MaxDepth)
	wantDiff(t, "as deep as can be", a, b, "=", 0)
	// One less deep: the leaf stands where a node stood.
	wantDiff(t, "one less deep", a, deep(impl.MaxDepth-1), strings.Repeat("(", impl.MaxDepth-2)+`!a""`+strings.Repeat(")", impl.MaxDepth-2), 3)
	wantDiff(t, "one deeper", deep(impl.MaxDepth-1), a, strings.Repeat("(", impl.MaxDepth-2)+`!(n a"")`+strings.Repeat(")", impl.MaxDepth-2), 3)
	wantDiff(t, "all of it", a, leaf("a", ""), `!a""`, impl.MaxDepth+1)
	// A change on each level, of two Kids each.
	a, b = leaf("a", ""), leaf("b", "")
	for i := range impl.MaxDepth - 1 {
		a, b = node("n", a, leaf("x", strconv.Itoa(i))), node("n", b, leaf("y", strconv.Itoa(i)))
	}
	if _, cost := checkDiff(t, a, b); cost != 2*impl.MaxDepth {
		t.Error(cost)
	}
}

func TestDiffOfLargeTrees(t *testing.T) {
	large := func(text string) impl.Tree {
		x := node("n")
		for i := range impl.MaxNodes - 1 {
			x.Kids = append(x.Kids, leaf("k", text+strconv.Itoa(i)))
		}
		return x
	}
	all := impl.MaxNodes - 1
	wantDiff(t, "and itself", wide(impl.MaxNodes), wide(impl.MaxNodes), "=", 0)
	wantDiff(t, "one fewer", wide(impl.MaxNodes), wide(impl.MaxNodes-1), "("+strings.Repeat("=", all-1)+"-)", 1)
	wantDiff(t, "one more", wide(impl.MaxNodes-1), wide(impl.MaxNodes), "("+strings.Repeat("=", all-1)+`<k"")`, 1)
	wantDiff(t, "all leave", wide(impl.MaxNodes), node("n"), "("+strings.Repeat("-", all)+")", all)
	wantDiff(t, "all come", node("n"), wide(impl.MaxNodes), "("+strings.Repeat(`<k""`, all)+")", all)
	wantDiff(t, "a leaf", wide(impl.MaxNodes), leaf("n", ""), `!n""`, impl.MaxNodes+1)
	other := wide(impl.MaxNodes)
	other.Name = "m"
	wantDiff(t, "another Name", wide(impl.MaxNodes), other, "!"+written(other), 2*impl.MaxNodes)
	if d, cost := checkDiff(t, large("x"), large("y")); cost != 2*all || strings.Count(deltaText(d), "!") != all {
		t.Error("each one anew", cost)
	}
	x, y := large("x"), large("x")
	y.Kids = append(y.Kids[1:all:all], leaf("k", "last"))
	wantDiff(t, "moved on by one", x, y, "(-"+strings.Repeat("=", all-1)+`<k"last")`, 2)
	y = large("x")
	y.Kids[all/2] = leaf("k", "other")
	wantDiff(t, "one in the middle", x, y, "("+strings.Repeat("=", all/2)+`!k"other"`+strings.Repeat("=", all-all/2-1)+")", 2)
	// Many nodes that are not the same, so that each with each must be looked at.
	a, b, want := node("n"), node("n"), "("
	for i := range (impl.MaxNodes - 1) / 3 {
		number := strconv.Itoa(i)
		a.Kids = append(a.Kids, node("k", leaf("a", number), leaf("b", "")))
		b.Kids = append(b.Kids, node("k", leaf("c", number), leaf("b", "")))
		want += `(!c"` + number + `"=)`
	}
	wantDiff(t, "many nodes", a, b, want+")", 2*len(a.Kids))
}

func TestDiffOfWrongTrees(t *testing.T) {
	right := tree(`(E a"" (F b""))`)
	for why, wrong := range wrongTrees() {
		for _, x := range [][2]impl.Tree{{wrong, right}, {right, wrong}, {wrong, wrong}, {wrong, {}}} {
			if d, cost, code := impl.Diff(x[0], x[1]); deltaText(d) != "[Kind 0]" || cost != 0 || code != impl.ErrBad {
				t.Errorf("%s: %s, %d, %d", why, deltaText(d), cost, code)
			}
		}
	}
}

func TestDiffKeepsAndSharesNothing(t *testing.T) {
	r := rand.New(rand.NewSource(152))
	for range 1000 {
		a := alikeTree(r, 1+r.Intn(5))
		b := changed(r, a, 1+r.Intn(5))
		x, y := roomy(a), roomy(b)
		if r.Intn(4) == 0 {
			y, b = x, a
		}
		d, _, _ := impl.Diff(x, y)
		answer, given := memory{}, memory{}
		answer.addDelta(d)
		given.addTree(x)
		given.addTree(y)
		if !answer.isApart(given) {
			t.Fatalf("from %s to %s: %s shares memory", written(a), written(b), deltaText(d))
		}
		if !sameTree(x, a) || !sameTree(y, b) || !sparesKept(x) || !sparesKept(y) {
			t.Fatal("an argument was written to")
		}
	}
	// What comes several times is made several times.
	d, _, _ := impl.Diff(tree(`(E)`), tree(`(E (F a"") (F a"") (G (F a"")))`))
	answer := memory{}
	answer.addDelta(d)
	if !answer.isApart(nil) {
		t.Error("two trees of an answer share memory")
	}
	// One list that stands in an argument several times is no fault.
	kids := []impl.Tree{leaf("a", ""), leaf("b", "")}
	wantDiff(t, "one list in several trees", impl.Tree{Name: "E", Kids: []impl.Tree{{Name: "F", Kids: kids}}}, impl.Tree{Name: "E", Kids: []impl.Tree{{Name: "F", Kids: kids}, {Name: "F", Kids: kids}}}, `(=<(F a"" b""))`, 3)
}
