package tests

import (
	"fmt"
	"iter"
	"math/rand"
	"slices"
	"testing"

	"loop.example/g00037/impl"
)

func dSame() impl.Delta { return impl.Delta{Kind: impl.DlSame} }

func dNew(x impl.Tree) impl.Delta { return impl.Delta{Kind: impl.DlNew, Tree: x} }

func dKids(kids ...impl.Delta) impl.Delta { return impl.Delta{Kind: impl.DlKids, Kids: kids} }

func dOut() impl.Delta { return impl.Delta{Kind: impl.DlOut} }

func dIn(x impl.Tree) impl.Delta { return impl.Delta{Kind: impl.DlIn, Tree: x} }

// sames are n that leave a Kid as it is.
func sames(n int) []impl.Delta { return slices.Repeat([]impl.Delta{dSame()}, n) }

func isZero(x impl.Tree) bool { return sameTree(x, impl.Tree{}) }

// deltaText writes = for DlSame, ! and a tree for DlNew, ( ) around what is done to Kids, - for DlOut, < and a tree for DlIn; what is not named, and not zero, stands in [ ].
func deltaText(d impl.Delta) string {
	s, tree, kids := "", isZero(d.Tree), len(d.Kids) == 0
	switch d.Kind {
	case impl.DlSame:
		s = "="
	case impl.DlNew:
		s, tree = "!"+written(d.Tree), true
	case impl.DlKids:
		s, kids = "(", true
		for _, kid := range d.Kids {
			s += deltaText(kid)
		}
		s += ")"
	case impl.DlOut:
		s = "-"
	case impl.DlIn:
		s, tree = "<"+written(d.Tree), true
	default:
		s = fmt.Sprintf("[Kind %d]", d.Kind)
	}
	if !tree || !kids {
		s += fmt.Sprintf("[%s and %d Kids]", written(d.Tree), len(d.Kids))
	}
	return s
}

func treeCount(x impl.Tree) int { return len(pathsOf(x)) }

// patchBy is what a change makes of a tree and what it costs, by the document's sentences; false when it is no change of it.
func patchBy(a impl.Tree, d impl.Delta) (made impl.Tree, cost int, right bool) {
	switch d.Kind {
	case impl.DlSame:
		return a, 0, isZero(d.Tree) && len(d.Kids) == 0
	case impl.DlNew:
		if !impl.TreeOK(d.Tree) || len(d.Kids) > 0 {
			return impl.Tree{}, 0, false
		}
		return d.Tree, treeCount(a) + treeCount(d.Tree), true
	case impl.DlKids:
		if a.Leaf || !isZero(d.Tree) {
			return impl.Tree{}, 0, false
		}
		made, next := node(a.Name), 0
		for _, kid := range d.Kids {
			came, left, price, fits := kidsBy(a.Kids[next:], kid)
			if !fits {
				return impl.Tree{}, 0, false
			}
			made.Kids = append(made.Kids, came...)
			next += left
			cost += price
		}
		return made, cost, next == len(a.Kids)
	}
	return impl.Tree{}, 0, false
}

// kidsBy is what comes of one that stands in a list of Kids, for how many of those that are left it was, and what it costs.
func kidsBy(rest []impl.Tree, d impl.Delta) (came []impl.Tree, left int, cost int, right bool) {
	if d.Kind == impl.DlIn {
		if !impl.TreeOK(d.Tree) || len(d.Kids) > 0 {
			return nil, 0, 0, false
		}
		return []impl.Tree{d.Tree}, 0, treeCount(d.Tree), true
	}
	if len(rest) == 0 {
		return nil, 0, 0, false
	}
	if d.Kind == impl.DlOut {
		return nil, 1, treeCount(rest[0]), isZero(d.Tree) && len(d.Kids) == 0
	}
	made, cost, right := patchBy(rest[0], d)
	return []impl.Tree{made}, 1, cost, right
}

// changesFrom tells all changes from one tree to another, the first ones first, with what they cost.
func changesFrom(a impl.Tree, b impl.Tree) iter.Seq2[impl.Delta, int] {
	return func(yield func(impl.Delta, int) bool) {
		if sameTree(a, b) && !yield(dSame(), 0) {
			return
		}
		if !a.Leaf && !b.Leaf && a.Name == b.Name {
			for kids, cost := range listChanges(a.Kids, b.Kids) {
				if !yield(dKids(kids...), cost) {
					return
				}
			}
		}
		yield(dNew(b), treeCount(a)+treeCount(b))
	}
}

// listChanges tells all that can be done to make one list of Kids of another; a list holds for ever.
func listChanges(from []impl.Tree, to []impl.Tree) iter.Seq2[[]impl.Delta, int] {
	return func(yield func([]impl.Delta, int) bool) {
		if len(from) == 0 && len(to) == 0 {
			yield(nil, 0)
			return
		}
		then := func(first impl.Delta, cost int, from []impl.Tree, to []impl.Tree) bool {
			for others, more := range listChanges(from, to) {
				if !yield(append([]impl.Delta{first}, others...), cost+more) {
					return false
				}
			}
			return true
		}
		if len(from) > 0 && len(to) > 0 {
			for first, cost := range changesFrom(from[0], to[0]) {
				if !then(first, cost, from[1:], to[1:]) {
					return
				}
			}
		}
		if len(from) > 0 && !then(dOut(), treeCount(from[0]), from[1:], to) {
			return
		}
		if len(to) > 0 {
			then(dIn(to[0]), treeCount(to[0]), from, to[1:])
		}
	}
}

// firstLeast is the first one of all changes that cost the least.
func firstLeast(a impl.Tree, b impl.Tree) (least impl.Delta, cost int) {
	cost = -1
	for d, price := range changesFrom(a, b) {
		if cost < 0 || price < cost {
			least, cost = d, price
		}
	}
	return least, cost
}

// differing remembers what it found, so that it is fit for larger trees than firstLeast: it goes through all ways in which the Kids of two nodes can be gone through, with the best for each two of them.
type differing map[string]diffed

type diffed struct {
	delta impl.Delta
	cost  int
}

func (m differing) best(a impl.Tree, b impl.Tree) diffed {
	key := written(a) + " " + written(b)
	if _, known := m[key]; !known {
		m[key] = m.found(a, b)
	}
	return m[key]
}

func (m differing) found(a impl.Tree, b impl.Tree) diffed {
	if sameTree(a, b) {
		return diffed{dSame(), 0}
	}
	all := treeCount(a) + treeCount(b)
	if a.Leaf || b.Leaf || a.Name != b.Name {
		return diffed{dNew(b), all}
	}
	best := diffed{cost: all + 1}
	var step func(from []impl.Tree, to []impl.Tree, done []impl.Delta, cost int)
	step = func(from []impl.Tree, to []impl.Tree, done []impl.Delta, cost int) {
		done = slices.Clip(done)
		if cost >= best.cost {
			return
		}
		if len(from) == 0 && len(to) == 0 {
			best = diffed{dKids(done...), cost}
			return
		}
		if len(from) > 0 && len(to) > 0 {
			one := m.best(from[0], to[0])
			step(from[1:], to[1:], append(done, one.delta), cost+one.cost)
		}
		if len(from) > 0 {
			step(from[1:], to, append(done, dOut()), cost+treeCount(from[0]))
		}
		if len(to) > 0 {
			step(from, to[1:], append(done, dIn(to[0])), cost+treeCount(to[0]))
		}
	}
	step(a.Kids, b.Kids, nil, 0)
	return best
}

// checkDiff asks for all that promise 24 says of two trees, and for the cost of the change that is told.
func checkDiff(t *testing.T, a impl.Tree, b impl.Tree) (impl.Delta, int) {
	t.Helper()
	d, cost, code := impl.Diff(a, b)
	if code != impl.OK {
		t.Fatalf("Diff of %s and %s answers %d", written(a), written(b), code)
	}
	if u, code := impl.Patch(a, d); code != impl.OK || !sameTree(u, b) {
		t.Fatalf("Patch of %s by %s is %s, %d and should be %s", written(a), deltaText(d), written(u), code, written(b))
	}
	if made, price, right := patchBy(a, d); !right || !sameTree(made, b) || price != cost {
		t.Fatalf("from %s to %s: %s costs %d and not %d", written(a), written(b), deltaText(d), price, cost)
	}
	if _, back, code := impl.Diff(b, a); back != cost || code != impl.OK {
		t.Fatalf("from %s to %s costs %d, the way back %d, %d", written(a), written(b), cost, back, code)
	}
	if (cost == 0) != sameTree(a, b) || (d.Kind == impl.DlSame) != sameTree(a, b) {
		t.Fatalf("from %s to %s: %s at %d", written(a), written(b), deltaText(d), cost)
	}
	return d, cost
}

// wantDiff is told the change and the cost as they are written down.
func wantDiff(t *testing.T, why string, a impl.Tree, b impl.Tree, want string, wantCost int) {
	t.Helper()
	if d, cost := checkDiff(t, a, b); deltaText(d) != want || cost != wantCost {
		t.Errorf("%s: from %s to %s: %s at %d and should be %s at %d", why, written(a), written(b), deltaText(d), cost, want, wantCost)
	}
}

func wantPatched(t *testing.T, why string, a impl.Tree, d impl.Delta, want impl.Tree) {
	t.Helper()
	if u, code := impl.Patch(a, d); code != impl.OK || !sameTree(u, want) {
		t.Errorf("%s: Patch of %s by %s is %s, %d and should be %s", why, written(a), deltaText(d), written(u), code, written(want))
	}
}

func noPatch(t *testing.T, why string, a impl.Tree, d impl.Delta, want int) {
	t.Helper()
	if u, code := impl.Patch(a, d); code != want || !isZero(u) {
		t.Errorf("%s: Patch answers a tree of %d Kids and code %d and should be %d", why, len(u.Kids), code, want)
	}
}

// longestPairs is the first of the longest lists of pairs, when all are gone through in the document's order: for each tree of base the place of the one it is matched with, or -1.
func longestPairs(base []impl.Tree, other []impl.Tree) []int {
	var best []int
	most := -1
	var step func(places []int, from int, count int)
	step = func(places []int, from int, count int) {
		places = slices.Clip(places)
		if count+min(len(base)-len(places), len(other)-from) <= most {
			return
		}
		if len(places) == len(base) {
			best, most = places, count
			return
		}
		for place := from; place < len(other); place++ {
			if sameTree(base[len(places)], other[place]) {
				step(append(places, place), place+1, count+1)
			}
		}
		step(append(places, -1), from, count)
	}
	step(nil, 0, 0)
	return best
}

// mergeBy goes by the document's sentences, with what it was told of a path.
func mergeBy(base impl.Tree, mine impl.Tree, yours impl.Tree, path []int) (impl.Tree, [][]int) {
	switch {
	case sameTree(mine, yours):
		return mine, nil
	case sameTree(yours, base):
		return mine, nil
	case sameTree(mine, base):
		return yours, nil
	case base.Leaf || mine.Leaf || yours.Leaf || base.Name != mine.Name || base.Name != yours.Name:
		return mine, [][]int{path}
	}
	merged := node(base.Name)
	var clashes [][]int
	inMine, inYours := longestPairs(base.Kids, mine.Kids), longestPairs(base.Kids, yours.Kids)
	b, m, y := 0, 0, 0
	for place := 0; place <= len(base.Kids); place++ {
		toMine, toYours := len(mine.Kids), len(yours.Kids)
		if place < len(base.Kids) {
			if inMine[place] < 0 || inYours[place] < 0 {
				continue
			}
			toMine, toYours = inMine[place], inYours[place]
		}
		more, told := stretchBy(base.Kids[b:place], mine.Kids[m:toMine], yours.Kids[y:toYours], path, len(merged.Kids))
		merged.Kids = append(merged.Kids, more...)
		clashes = append(clashes, told...)
		if place < len(base.Kids) {
			merged.Kids = append(merged.Kids, base.Kids[place])
		}
		b, m, y = place+1, toMine+1, toYours+1
	}
	return merged, clashes
}

func stretchBy(base []impl.Tree, mine []impl.Tree, yours []impl.Tree, path []int, place int) ([]impl.Tree, [][]int) {
	at := func(place int) []int { return append(slices.Clone(path), place) }
	switch {
	case sameTrees(mine, yours):
		return mine, nil
	case sameTrees(yours, base):
		return mine, nil
	case sameTrees(mine, base):
		return yours, nil
	case len(base) == 1 && len(mine) == 1 && len(yours) == 1:
		merged, clashes := mergeBy(base[0], mine[0], yours[0], at(place))
		return []impl.Tree{merged}, clashes
	case len(mine) == 0:
		return nil, [][]int{at(place)}
	}
	var clashes [][]int
	for i := range mine {
		clashes = append(clashes, at(place+i))
	}
	return mine, clashes
}

func samePaths(a [][]int, b [][]int) bool { return slices.EqualFunc(a, b, slices.Equal[[]int]) }

// checkMerge compares with the model, and asks for all that promise 25 says of the three.
func checkMerge(t *testing.T, base impl.Tree, mine impl.Tree, yours impl.Tree) (impl.Tree, [][]int) {
	t.Helper()
	merged, clashes, code := impl.Merge(base, mine, yours)
	if want, wantClashes := mergeBy(base, mine, yours, nil); code != impl.OK || !sameTree(merged, want) || !samePaths(clashes, wantClashes) {
		t.Fatalf("Merge of %s, %s and %s is %s, %v, %d and should be %s, %v", written(base), written(mine), written(yours), written(merged), clashes, code, written(want), wantClashes)
	}
	for _, x := range []struct{ mine, yours, want impl.Tree }{{base, yours, yours}, {mine, base, mine}, {base, base, base}, {mine, mine, mine}} {
		if u, clashes, code := impl.Merge(base, x.mine, x.yours); code != impl.OK || len(clashes) > 0 || !sameTree(u, x.want) {
			t.Fatalf("Merge of %s, %s and %s is %s, %v, %d", written(base), written(x.mine), written(x.yours), written(u), clashes, code)
		}
	}
	turned, turnedClashes, code := impl.Merge(base, yours, mine)
	if code != impl.OK || (len(clashes) > 0) != (len(turnedClashes) > 0) || len(clashes) == 0 && !sameTree(merged, turned) {
		t.Fatalf("Merge of %s, %s and %s: %s, %v; the other way %s, %v, %d", written(base), written(mine), written(yours), written(merged), clashes, written(turned), turnedClashes, code)
	}
	return merged, clashes
}

// wantMerged is told the tree and the clashes as they are written down.
func wantMerged(t *testing.T, why string, base string, mine string, yours string, want string, wantClashes ...[]int) {
	t.Helper()
	if merged, clashes := checkMerge(t, tree(base), tree(mine), tree(yours)); !sameTree(merged, tree(want)) || !samePaths(clashes, wantClashes) {
		t.Errorf("%s: Merge of %s, %s and %s is %s, %v and should be %s, %v", why, base, mine, yours, written(merged), clashes, want, wantClashes)
	}
}

func noMerge(t *testing.T, why string, base impl.Tree, mine impl.Tree, yours impl.Tree, want int) {
	t.Helper()
	if u, clashes, code := impl.Merge(base, mine, yours); code != want || !isZero(u) || len(clashes) > 0 {
		t.Errorf("%s: Merge answers a tree of %d Kids, %v and code %d and should be %d", why, len(u.Kids), clashes, code, want)
	}
}

// treesUpTo are all trees of at most n trees with these leaves, and nodes of these names.
func treesUpTo(n int, leaves []impl.Tree, names ...string) []impl.Tree {
	bySize := [][]impl.Tree{nil}
	var all []impl.Tree
	for size := 1; size <= n; size++ {
		var made []impl.Tree
		if size == 1 {
			made = append(made, leaves...)
		}
		for _, name := range names {
			for _, kids := range listsTogether(size-1, bySize) {
				made = append(made, node(name, kids...))
			}
		}
		bySize = append(bySize, made)
		all = append(all, made...)
	}
	return all
}

// listsTogether are all lists of trees that have so many trees together.
func listsTogether(size int, bySize [][]impl.Tree) [][]impl.Tree {
	if size == 0 {
		return [][]impl.Tree{nil}
	}
	var lists [][]impl.Tree
	for first := 1; first <= size; first++ {
		for _, x := range bySize[first] {
			for _, others := range listsTogether(size-first, bySize) {
				lists = append(lists, append([]impl.Tree{x}, others...))
			}
		}
	}
	return lists
}

// flatTrees are all nodes with at most n Kids that are leaves with these names.
func flatTrees(n int, names string) []impl.Tree {
	var trees []impl.Tree
	for _, text := range textsOver(names, n) {
		trees = append(trees, flat(text))
	}
	return trees
}

// flat has a leaf for each byte of a text.
func flat(text string) impl.Tree {
	x := node("L")
	for _, b := range []byte(text) {
		x.Kids = append(x.Kids, leaf(string(b), ""))
	}
	return x
}

// changed is a tree with some changes at any places, so that much of it stays.
func changed(r *rand.Rand, x impl.Tree, changes int) impl.Tree {
	x = copyTree(x)
	for range changes {
		path := oneOf(r, pathsOf(x)...)
		x = putBy(x, path, changedAlone(r, under(x, path)))
	}
	return x
}

// changedAlone changes a tree itself, or which Kids it has.
func changedAlone(r *rand.Rand, x impl.Tree) impl.Tree {
	if x.Leaf || r.Intn(6) == 0 {
		return alikeTree(r, 1+r.Intn(2))
	}
	x = copyTree(x)
	place := r.Intn(len(x.Kids) + 1)
	if place < len(x.Kids) && r.Intn(2) == 0 {
		x.Kids = slices.Delete(x.Kids, place, place+1)
		return x
	}
	x.Kids = slices.Insert(x.Kids, place, alikeTree(r, 1+r.Intn(2)))
	return x
}

// memory counts the places of all lists, with the room behind them.
type memory map[any]int

func (m memory) addTree(x impl.Tree) {
	all := x.Kids[:cap(x.Kids)]
	for i := range all {
		m[&all[i]]++
	}
	for _, kid := range x.Kids {
		m.addTree(kid)
	}
}

func (m memory) addDelta(d impl.Delta) {
	m.addTree(d.Tree)
	all := d.Kids[:cap(d.Kids)]
	for i := range all {
		m[&all[i]]++
	}
	for _, kid := range d.Kids {
		m.addDelta(kid)
	}
}

func (m memory) addPaths(paths [][]int) {
	for _, path := range paths {
		all := path[:cap(path)]
		for i := range all {
			m[&all[i]]++
		}
	}
}

// isApart tells whether each place stands there once, and none of them in given.
func (m memory) isApart(given memory) bool {
	for place, times := range m {
		if times > 1 || given[place] > 0 {
			return false
		}
	}
	return true
}
