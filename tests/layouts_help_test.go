package tests

import (
	"fmt"
	"math/rand"
	"slices"
	"strings"
	"testing"

	"loop.example/g00037/impl"
)

func lText(s string) impl.LNode { return impl.LNode{Kind: impl.LyText, S: s} }

func lLine() impl.LNode { return impl.LNode{Kind: impl.LyLine} }

func lSoft() impl.LNode { return impl.LNode{Kind: impl.LySoft} }

func lHard() impl.LNode { return impl.LNode{Kind: impl.LyHard} }

func lNest(n int, kids ...int) impl.LNode {
	return impl.LNode{Kind: impl.LyNest, N: n, Kids: kids}
}

func lGroup(kids ...int) impl.LNode { return impl.LNode{Kind: impl.LyGroup, Kids: kids} }

func lCat(kids ...int) impl.LNode { return impl.LNode{Kind: impl.LyCat, Kids: kids} }

// lay is a layout as a tree.
type lay struct {
	impl.LNode
	within []lay
}

// nodes has each one behind all that is within it, in the order of the text.
func (l lay) nodes() []impl.LNode {
	var d []impl.LNode
	var put func(l lay) int
	put = func(l lay) int {
		var kids []int
		for _, one := range l.within {
			kids = append(kids, put(one))
		}
		n := l.LNode
		n.Kids = kids
		d = append(d, n)
		return len(d) - 1
	}
	put(l)
	return d
}

// layOf reads one: < > a group, {3 } a nest, [ ] a cat, and in these _ a line, . a soft one, ! a hard one, other bytes a text up to the next sign. The whole is a cat, when it is not just one.
func layOf(text string) lay {
	all, rest := laysOf(text)
	if rest != "" {
		panic(text)
	}
	if len(all) == 1 {
		return all[0]
	}
	return lay{LNode: lCat(), within: all}
}

func laysOf(text string) ([]lay, string) {
	var all []lay
	for text != "" {
		sign := text[0]
		if strings.IndexByte(">}]", sign) >= 0 {
			break
		}
		var one lay
		switch sign {
		case '_':
			one.LNode = lLine()
		case '.':
			one.LNode = lSoft()
		case '!':
			one.LNode = lHard()
		case '<', '[', '{':
			one, text = bracketOf(text)
		default:
			length := strings.IndexAny(text, "_.!<>[]{}")
			if length < 0 {
				length = len(text)
			}
			one.LNode = lText(text[:length])
			text = text[length-1:]
		}
		all = append(all, one)
		text = text[1:]
	}
	return all, text
}

// bracketOf leaves the bracket that ends it.
func bracketOf(text string) (lay, string) {
	sign := text[0]
	text = text[1:]
	nest := 0
	if sign == '{' {
		digits, _, _ := strings.Cut(text, " ")
		fmt.Sscan(digits, &nest)
		text = text[len(digits)+1:]
	}
	within, rest := laysOf(text)
	if sign == '[' {
		return lay{LNode: lCat(), within: within}, rest
	}
	if len(within) != 1 {
		within = []lay{{LNode: lCat(), within: within}}
	}
	if sign == '<' {
		return lay{LNode: lGroup(), within: within}, rest
	}
	return lay{LNode: lNest(nest), within: within}, rest
}

func layout(text string) []impl.LNode { return layOf(text).nodes() }

func groupCount(d []impl.LNode) int {
	n := 0
	for _, one := range d {
		if one.Kind == impl.LyGroup {
			n++
		}
	}
	return n
}

// placed is a node that gives something, with the blanks and the groups (by their numbers) of all that is around it.
type placed struct {
	impl.LNode
	indent int
	groups []int
}

// placedIn looks, for each node that gives something, at all that is around it.
func placedIn(d []impl.LNode) []placed {
	around := make([]int, len(d))
	number := make([]int, len(d))
	for i, one := range d {
		around[i] = -1
		number[i] = groupCount(d[:i])
		for _, kid := range one.Kids {
			around[kid] = i
		}
	}
	var list []placed
	for _, place := range leavesOf(d, len(d)-1) {
		one := placed{LNode: d[place]}
		for up := around[place]; up >= 0; up = around[up] {
			one.indent += d[up].N
			if d[up].Kind == impl.LyGroup {
				one.groups = append(one.groups, number[up])
			}
		}
		list = append(list, one)
	}
	return list
}

// setOf is the text by a choice.
func setOf(list []placed, broken []bool) string {
	var text strings.Builder
	for _, one := range list {
		flat := slices.ContainsFunc(one.groups, func(group int) bool { return !broken[group] })
		isLine := one.Kind == impl.LyLine || one.Kind == impl.LySoft
		switch {
		case one.Kind == impl.LyText:
			text.WriteString(one.S)
		case one.Kind == impl.LyHard || isLine && !flat:
			text.WriteString("\n" + strings.Repeat(" ", one.indent))
		case one.Kind == impl.LyLine:
			text.WriteString(" ")
		}
	}
	return text.String()
}

func setBy(d []impl.LNode, broken []bool) string { return setOf(placedIn(d), broken) }

func leavesOf(d []impl.LNode, place int) []int {
	if len(d[place].Kids) == 0 {
		return []int{place}
	}
	var leaves []int
	for _, kid := range d[place].Kids {
		leaves = append(leaves, leavesOf(d, kid)...)
	}
	return leaves
}

// overBy is the overflow of a text.
func overBy(text string, width int) int {
	over := 0
	for _, line := range strings.Split(text, "\n") {
		if len(line) > width {
			over += len(line) - width
		}
	}
	return over
}

// choicesOf are all, in their order: flat ahead of broken, by the first at which two part.
func choicesOf(groups int) [][]bool {
	all := [][]bool{{}}
	for range groups {
		var longer [][]bool
		for _, choice := range all {
			longer = append(longer, append(slices.Clone(choice), false), append(slices.Clone(choice), true))
		}
		all = longer
	}
	return all
}

// bestBy tries each choice; of those that are as good the first one stays.
func bestBy(d []impl.LNode, width int) (string, int) {
	best, over, feeds := "", -1, 0
	list := placedIn(d)
	for _, choice := range choicesOf(groupCount(d)) {
		text := setOf(list, choice)
		itsOver, itsFeeds := overBy(text, width), strings.Count(text, "\n")
		if over < 0 || itsOver < over || itsOver == over && itsFeeds < feeds {
			best, over, feeds = text, itsOver, itsFeeds
		}
	}
	return best, over
}

func layText(d []impl.LNode) string { return fmt.Sprintf("%+v", d) }

// checkLayout compares with the model, and asks what promise 22 asks, by Set.
func checkLayout(t *testing.T, d []impl.LNode, width int) (string, int) {
	t.Helper()
	text, over, code := impl.Layout(d, width)
	if want, wantOver := bestBy(d, width); text != want || over != wantOver || code != impl.OK {
		t.Fatalf("Layout of %s to %d: %q, %d, %d and should be %q, %d", layText(d), width, text, over, code, want, wantOver)
	}
	noneIsBetter(t, d, width, text)
	return text, over
}

// noneIsBetter is promise 22.
func noneIsBetter(t *testing.T, d []impl.LNode, width int, text string) {
	t.Helper()
	over, feeds := overBy(text, width), strings.Count(text, "\n")
	isOne := false
	for _, choice := range choicesOf(groupCount(d)) {
		other, code := impl.Set(d, choice)
		if code != impl.OK {
			t.Fatalf("Set of %s, %v answers %d", layText(d), choice, code)
		}
		isOne = isOne || other == text
		if o := overBy(other, width); o < over || o == over && strings.Count(other, "\n") < feeds {
			t.Fatalf("%s to %d: %q is better than %q", layText(d), width, other, text)
		}
	}
	if !isOne {
		t.Fatalf("%s to %d: no choice gives %q", layText(d), width, text)
	}
}

// wantBest asks for a text that is written down, and for what the model says.
func wantBest(t *testing.T, why string, d []impl.LNode, width int, want string, wantOver int) {
	t.Helper()
	if text, over := checkLayout(t, d, width); text != want || over != wantOver {
		t.Errorf("%s: Layout to %d: %q, %d and should be %q, %d", why, width, text, over, want, wantOver)
	}
}

// wantSet asks for a text that is written down, and for what the model says; the choice is written as f and b.
func wantSet(t *testing.T, why string, d []impl.LNode, choice string, want string) {
	t.Helper()
	var broken []bool
	for _, sign := range choice {
		broken = append(broken, sign == 'b')
	}
	if text, code := impl.Set(d, broken); text != want || code != impl.OK {
		t.Errorf("%s: Set %q: %q, %d and should be %q", why, choice, text, code, want)
	}
	if text := setBy(d, broken); text != want {
		t.Errorf("%s: the model sets %q: %q and should be %q", why, choice, text, want)
	}
}

func isLayout(t *testing.T, why string, d []impl.LNode) {
	t.Helper()
	broken := make([]bool, groupCount(d))
	if _, code := impl.Set(d, broken); !impl.LayoutOK(d) || code != impl.OK {
		t.Errorf("%s: %v, Set answers %d", why, impl.LayoutOK(d), code)
	}
	if _, _, code := impl.Layout(d, 40); code != impl.OK {
		t.Errorf("%s: Layout answers %d", why, code)
	}
}

// noLayout is refused also where broken or the width are wrong.
func noLayout(t *testing.T, why string, d []impl.LNode) {
	t.Helper()
	if impl.LayoutOK(d) {
		t.Errorf("%s: is right", why)
	}
	for _, broken := range [][]bool{nil, make([]bool, groupCount(d)), make([]bool, groupCount(d)+1)} {
		if text, code := impl.Set(d, broken); text != "" || code != impl.ErrBad {
			t.Errorf("%s: Set with %d: %q, %d", why, len(broken), text, code)
		}
	}
	for _, width := range []int{-1, 0, 40, impl.MaxWidth + 1} {
		if text, over, code := impl.Layout(d, width); text != "" || over != 0 || code != impl.ErrBad {
			t.Errorf("%s: Layout to %d: %q, %d, %d", why, width, text, over, code)
		}
	}
}

func copyLayout(d []impl.LNode) []impl.LNode {
	var c []impl.LNode
	for _, one := range d {
		one.Kids = slices.Clone(one.Kids)
		c = append(c, one)
	}
	return c
}

func sameLayout(a []impl.LNode, b []impl.LNode) bool {
	return slices.EqualFunc(a, b, func(x impl.LNode, y impl.LNode) bool {
		return x.Kind == y.Kind && x.S == y.S && x.N == y.N && slices.Equal(x.Kids, y.Kids)
	})
}

// someLay has at most as many groups as is told; what is left of them comes back.
func someLay(r *rand.Rand, depth int, groups *int) lay {
	if depth == 0 || r.Intn(6) == 0 {
		return lay{LNode: oneOf(r, lText(""), lText("a"), lText("bb "), lText(" ccc"), lText("dddddd"), lLine(), lLine(), lLine(), lSoft(), lHard())}
	}
	switch kind := r.Intn(6); {
	case kind < 2 && *groups > 0:
		*groups--
		return lay{LNode: lGroup(), within: []lay{someLay(r, depth-1, groups)}}
	case kind == 2:
		return lay{LNode: lNest(r.Intn(4)), within: []lay{someLay(r, depth-1, groups)}}
	}
	one := lay{LNode: lCat()}
	for n := r.Intn(5); n > 0; n-- {
		one.within = append(one.within, someLay(r, depth-1, groups))
	}
	return one
}

// mixed has the nodes in another order, in which each Kid still stands ahead of its node.
func mixed(r *rand.Rand, d []impl.LNode) []impl.LNode {
	place := make([]int, len(d))
	var waiting []int
	for i := range d {
		waiting = append(waiting, i)
		place[i] = -1
	}
	var out []impl.LNode
	for len(waiting) > 0 {
		k := r.Intn(len(waiting))
		one := d[waiting[k]]
		if slices.ContainsFunc(one.Kids, func(kid int) bool { return place[kid] < 0 }) {
			continue
		}
		place[waiting[k]] = len(out)
		waiting = slices.Delete(waiting, k, k+1)
		var kids []int
		for _, kid := range one.Kids {
			kids = append(kids, place[kid])
		}
		one.Kids = kids
		out = append(out, one)
	}
	return out
}

// someLayouts are right, with up to some groups.
func someLayouts(seed int64, n int, groups int) [][]impl.LNode {
	r := rand.New(rand.NewSource(seed))
	var list [][]impl.LNode
	for len(list) < n {
		left := groups
		d := someLay(r, 2+r.Intn(6), &left).nodes()
		if len(d) > 120 {
			continue
		}
		if r.Intn(2) == 0 {
			d = mixed(r, d)
		}
		list = append(list, d)
	}
	return list
}
