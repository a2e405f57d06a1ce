package tests

import (
	"fmt"
	"math/rand"
	"regexp"
	"slices"
	"strconv"
	"strings"
	"testing"

	"loop.example/g00037/impl"
)

func parent(from int, to int) impl.SEdge {
	return impl.SEdge{From: from, To: to, Kind: impl.EkParent}
}

func imports(from int, to int) impl.SEdge {
	return impl.SEdge{From: from, To: to, Kind: impl.EkImport}
}

// spots are written as scope and name: "0x 12yes".
func spots(text string) []impl.Spot {
	var list []impl.Spot
	for _, word := range strings.Fields(text) {
		name := strings.TrimLeft(word, "0123456789")
		scope, err := strconv.Atoi(strings.TrimSuffix(word, name))
		if err != nil {
			panic(err)
		}
		list = append(list, impl.Spot{Scope: scope, Name: name})
	}
	return list
}

func scopes(count int, decls string, refs string, edges ...impl.SEdge) impl.Sg {
	return impl.Sg{Scopes: count, Edges: edges, Decls: spots(decls), Refs: spots(refs)}
}

func copySg(g impl.Sg) impl.Sg {
	return impl.Sg{Scopes: g.Scopes, Edges: slices.Clone(g.Edges), Decls: slices.Clone(g.Decls), Refs: slices.Clone(g.Refs)}
}

func sameSg(a impl.Sg, b impl.Sg) bool {
	return a.Scopes == b.Scopes && slices.Equal(a.Edges, b.Edges) && slices.Equal(a.Decls, b.Decls) && slices.Equal(a.Refs, b.Refs)
}

const unseen = 1 << 30

// seenBy is for a scope and a declaration the fewest steps in which it is seen from there: what the sentences say, until nothing is new.
func seenBy(g impl.Sg) [][]int {
	seen := make([][]int, g.Scopes)
	for scope := range seen {
		seen[scope] = slices.Repeat([]int{unseen}, len(g.Decls))
		for d, decl := range g.Decls {
			if decl.Scope == scope {
				seen[scope][d] = 0
			}
		}
	}
	for isNew := true; isNew; {
		isNew = false
		for _, e := range g.Edges {
			for d, decl := range g.Decls {
				steps := unseen
				if e.Kind == impl.EkParent && seen[e.To][d] < unseen {
					steps = seen[e.To][d] + 2
				}
				if e.Kind == impl.EkImport && decl.Scope == e.To {
					steps = 1
				}
				if steps < seen[e.From][d] {
					seen[e.From][d], isNew = steps, true
				}
			}
		}
	}
	return seen
}

// resolveBy is for each ref the declarations of its Name that are seen in the fewest steps.
func resolveBy(g impl.Sg) [][]int {
	seen := seenBy(g)
	var lists [][]int
	for _, ref := range g.Refs {
		least := unseen
		for d, decl := range g.Decls {
			if decl.Name == ref.Name {
				least = min(least, seen[ref.Scope][d])
			}
		}
		var list []int
		for d, decl := range g.Decls {
			if decl.Name == ref.Name && least < unseen && seen[ref.Scope][d] == least {
				list = append(list, d)
			}
		}
		lists = append(lists, list)
	}
	return lists
}

// renameBy is what the document says of Rename, for scopes, a place and a name that are right.
func renameBy(g impl.Sg, decl int, name string) (impl.Sg, int) {
	before := resolveBy(g)
	if slices.ContainsFunc(before, func(list []int) bool { return len(list) > 1 && slices.Contains(list, decl) }) {
		return impl.Sg{}, impl.ErrTwice
	}
	changed := copySg(g)
	changed.Decls[decl].Name = name
	for i, list := range before {
		if slices.Equal(list, []int{decl}) {
			changed.Refs[i].Name = name
		}
	}
	if !slices.EqualFunc(before, resolveBy(changed), slices.Equal[[]int]) {
		return impl.Sg{}, impl.ErrCatch
	}
	return changed, impl.OK
}

// checkScopes asks of scopes that are right for what the model says of each ref and of all declarations.
func checkScopes(t *testing.T, g impl.Sg) [][]int {
	t.Helper()
	if !impl.SgOK(g) {
		t.Fatalf("not right: %v", g)
	}
	lists := resolveBy(g)
	var unused []int
	for d := range g.Decls {
		if !slices.ContainsFunc(lists, func(list []int) bool { return slices.Contains(list, d) }) {
			unused = append(unused, d)
		}
	}
	for i, want := range lists {
		wantCode := impl.OK
		if len(want) == 0 {
			wantCode = impl.ErrUndef
		}
		if list, code := impl.Resolve(g, i); !slices.Equal(list, want) || code != wantCode {
			t.Fatalf("ref %d of %v: %v, %d and should be %v, %d", i, g, list, code, want, wantCode)
		}
	}
	for _, i := range []int{-1, len(g.Refs), len(g.Refs) + 1, -1 << 63, 1<<63 - 1} {
		if list, code := impl.Resolve(g, i); len(list) != 0 || code != impl.ErrPlace {
			t.Fatalf("ref %d of %v: %v, %d", i, g, list, code)
		}
	}
	if list, code := impl.Unused(g); !slices.Equal(list, unused) || code != impl.OK {
		t.Fatalf("Unused of %v: %v, %d and should be %v", g, list, code, unused)
	}
	return lists
}

// wantResolved asks for what is written down, and for what the model says.
func wantResolved(t *testing.T, why string, g impl.Sg, want ...[]int) {
	t.Helper()
	if lists := checkScopes(t, g); !slices.EqualFunc(lists, want, slices.Equal[[]int]) {
		t.Errorf("%s: %v and should be %v", why, lists, want)
	}
}

// checkRename compares with the model, and asks that each ref Resolves to what it did.
func checkRename(t *testing.T, g impl.Sg, decl int, name string) (impl.Sg, int) {
	t.Helper()
	changed, code := impl.Rename(g, decl, name)
	if want, wantCode := renameBy(g, decl, name); !sameSg(changed, want) || code != wantCode {
		t.Fatalf("Rename of %v, %d to %s: %v, %d and should be %v, %d", g, decl, name, changed, code, want, wantCode)
	}
	if code != impl.OK {
		return changed, code
	}
	if changed.Decls[decl].Name != name || changed.Scopes != g.Scopes || !slices.Equal(changed.Edges, g.Edges) {
		t.Fatalf("Rename of %v, %d to %s: %v", g, decl, name, changed)
	}
	for i := range g.Refs {
		before, beforeCode := impl.Resolve(g, i)
		list, listCode := impl.Resolve(changed, i)
		if !slices.Equal(list, before) || listCode != beforeCode {
			t.Fatalf("Rename of %v, %d to %s: ref %d was %v, %d and is %v, %d", g, decl, name, i, before, beforeCode, list, listCode)
		}
	}
	// The old name gives back what was.
	if again, code := impl.Rename(changed, decl, g.Decls[decl].Name); !sameSg(again, g) || code != impl.OK {
		t.Fatalf("Rename of %v, %d to %s and back: %v, %d", g, decl, name, again, code)
	}
	return changed, code
}

// wantRenamed asks for the declarations and refs that are written down.
func wantRenamed(t *testing.T, why string, g impl.Sg, decl int, name string, decls string, refs string) {
	t.Helper()
	changed, code := checkRename(t, g, decl, name)
	if code != impl.OK || !slices.Equal(changed.Decls, spots(decls)) || !slices.Equal(changed.Refs, spots(refs)) {
		t.Errorf("%s: %v, %d and should be %s and %s", why, changed, code, decls, refs)
	}
}

func noRename(t *testing.T, why string, g impl.Sg, decl int, name string, want int) {
	t.Helper()
	if changed, code := impl.Rename(g, decl, name); !sameSg(changed, impl.Sg{}) || code != want {
		t.Errorf("%s: Rename of %d to %.40q is %v, %d and should be %d", why, decl, name, changed, code, want)
	}
}

// noScopes asks for ErrBad of all, also with places and a name that are none.
func noScopes(t *testing.T, why string, g impl.Sg) {
	t.Helper()
	if impl.SgOK(g) {
		t.Errorf("%s: SgOK", why)
	}
	for _, place := range []int{0, -1, len(g.Refs), 1000} {
		if list, code := impl.Resolve(g, place); len(list) != 0 || code != impl.ErrBad {
			t.Errorf("%s: Resolve of %d is %v, %d", why, place, list, code)
		}
		noRename(t, why, g, place, "fresh", impl.ErrBad)
		noRename(t, why, g, place, "", impl.ErrBad)
	}
	if list, code := impl.Unused(g); len(list) != 0 || code != impl.ErrBad {
		t.Errorf("%s: Unused is %v, %d", why, list, code)
	}
}

var noNames = []string{"", "1", "1x", "_", "_x", "x-y", "x y", " x", "x ", "x\n", "x\x00", "é", "x\xff", "\"", "x'", strings.Repeat("x", impl.MaxName+1), strings.Repeat("x", 100000)}

func someSg(r *rand.Rand) impl.Sg {
	g := impl.Sg{Scopes: 1 + r.Intn(6)}
	for range r.Intn(2 * g.Scopes) {
		g.Edges = append(g.Edges, impl.SEdge{From: r.Intn(g.Scopes), To: r.Intn(g.Scopes), Kind: oneOf(r, impl.EkParent, impl.EkParent, impl.EkImport)})
	}
	some := func() []impl.Spot {
		var list []impl.Spot
		for range r.Intn(6) {
			list = append(list, impl.Spot{Scope: r.Intn(g.Scopes), Name: oneOf(r, "x", "x", "y", "z")})
		}
		return list
	}
	g.Decls, g.Refs = some(), some()
	return g
}

var bareIds = regexp.MustCompile(`\b[a-z][a-zA-Z0-9_]*\b`)
var bareNums = regexp.MustCompile(`\b[0-9]+\b`)
var bareFlags = regexp.MustCompile(`\b(Yes|No)\b`)

// term reads a term in which Ids (with a small letter first), Nums, Yes and No stand bare: (Let f (Lam x 1) (App f Yes)).
func term(text string) impl.Tree {
	text = bareNums.ReplaceAllString(text, `Num"$0"`)
	text = bareFlags.ReplaceAllString(text, `$0""`)
	return tree(bareIds.ReplaceAllString(text, `Id"$0"`))
}

func id(name string) impl.Tree { return leaf("Id", name) }

func lam(x string, a impl.Tree) impl.Tree { return node("Lam", id(x), a) }

func let(x string, a impl.Tree, b impl.Tree) impl.Tree { return node("Let", id(x), a, b) }

func app(a impl.Tree, b impl.Tree) impl.Tree { return node("App", a, b) }

// apps is all of them in one term, each as deep as few can be.
func apps(list []impl.Tree) impl.Tree {
	if len(list) == 1 {
		return list[0]
	}
	return app(apps(list[:len(list)/2]), apps(list[len(list)/2:]))
}

var termIds = regexp.MustCompile(`\bId"[a-zA-Z][a-zA-Z0-9_]{0,23}"`)
var termLeaves = regexp.MustCompile(`\bNum"(0|[1-9][0-9]{0,8})"|\b(Yes|No)""`)

var termNodes = []*regexp.Regexp{
	regexp.MustCompile("\\(Lam \x01 [\x01\x02]\\)"),
	regexp.MustCompile("\\(Let \x01 [\x01\x02] [\x01\x02]\\)"),
	regexp.MustCompile("\\((App|Add|Eq) [\x01\x02] [\x01\x02]\\)"),
	regexp.MustCompile("\\(If [\x01\x02] [\x01\x02] [\x01\x02]\\)"),
}

// isTermBy takes terms out of a right tree's text from within, until one is left or nothing goes on. (Byte 1 stands for an Id, byte 2 for another term: no text has them.)
func isTermBy(x impl.Tree) bool {
	if !impl.TreeOK(x) {
		return false
	}
	text := termIds.ReplaceAllString(written(x), "\x01")
	text = termLeaves.ReplaceAllString(text, "\x02")
	for before := ""; before != text; {
		before = text
		for _, form := range termNodes {
			text = form.ReplaceAllString(text, "\x02")
		}
	}
	return text == "\x01" || text == "\x02"
}

// wantTerm asks for what is written down, and for what the model says; all others refuse what is no term.
func wantTerm(t *testing.T, x impl.Tree, want bool) {
	t.Helper()
	if got := impl.TermOK(x); got != want {
		t.Errorf("TermOK of %.200s: %v", written(x), got)
	}
	if isTermBy(x) != want {
		t.Errorf("the model says otherwise of %.200s", written(x))
	}
	if !want {
		noTerm(t, fmt.Sprintf("%.200s", written(x)), x)
	}
}

func noTerm(t *testing.T, why string, x impl.Tree) {
	t.Helper()
	if impl.TermOK(x) {
		t.Errorf("%s: TermOK", why)
	}
	if g, decls, refs, code := impl.ScopesOf(x); !sameSg(g, impl.Sg{}) || len(decls) != 0 || len(refs) != 0 || code != impl.ErrBad {
		t.Errorf("%s: ScopesOf is %v, %v, %v, %d", why, g, decls, refs, code)
	}
	noSubst(t, why+", put into", x, "x", id("y"), impl.ErrBad)
	noSubst(t, why+", put in where it comes", id("x"), "x", x, impl.ErrBad)
	noSubst(t, why+", put in where nothing comes", id("y"), "x", x, impl.ErrBad)
}

func noSubst(t *testing.T, why string, x impl.Tree, name string, u impl.Tree, want int) {
	t.Helper()
	if put, code := impl.Subst(x, name, u); !sameTree(put, impl.Tree{}) || code != want {
		t.Errorf("%s: Subst is %.200s, %d and should be %d", why, written(put), code, want)
	}
}

// naming is what a model knows of the names in a term, by paths alone.
type naming struct {
	term  impl.Tree
	nodes [][]int // the Lams and Lets
	ids   [][]int // all Ids that are not an x of these
}

func namingOf(x impl.Tree) naming {
	n := naming{term: x}
	for _, path := range pathsOf(x) {
		switch at := under(x, path); {
		case at.Name == "Lam" || at.Name == "Let":
			n.nodes = append(n.nodes, path)
		case at.Name == "Id" && !slices.ContainsFunc(n.nodes, func(node []int) bool { return slices.Equal(ownX(node), path) }):
			n.ids = append(n.ids, path)
		}
	}
	return n
}

func ownX(node []int) []int { return append(slices.Clone(node), 0) }

// scopeOf is the path of the Kid for which a Lam or Let declares its x: of (Lam x a) the second, of (Let x a b) the third.
func (n naming) scopeOf(node []int) []int {
	if under(n.term, node).Name == "Lam" {
		return append(slices.Clone(node), 1)
	}
	return append(slices.Clone(node), 2)
}

// around are the places in nodes of those in whose scope a path is, from without.
func (n naming) around(path []int) []int {
	var list []int
	for i, node := range n.nodes {
		if begins(path, n.scopeOf(node)) {
			list = append(list, i)
		}
	}
	return list
}

// declaredBy is the place in nodes of the innermost that declares the name of an Id; -1 when it stands free.
func (n naming) declaredBy(path []int) int {
	by := -1
	for _, i := range n.around(path) {
		if n.nameAt(ownX(n.nodes[i])) == n.nameAt(path) {
			by = i
		}
	}
	return by
}

func (n naming) nameAt(path []int) string { return under(n.term, path).Text }

func (n naming) freeIds() [][]int {
	return slices.DeleteFunc(slices.Clone(n.ids), func(path []int) bool { return n.declaredBy(path) >= 0 })
}

// scopesBy is what the document says of ScopesOf, without a limit.
func scopesBy(x impl.Tree) (impl.Sg, [][]int, [][]int) {
	n := namingOf(x)
	g := impl.Sg{Scopes: 1 + len(n.nodes)}
	scopeAt := func(path []int) int {
		if around := n.around(path); len(around) > 0 {
			return 1 + around[len(around)-1]
		}
		return 0
	}
	var decls [][]int
	for i, node := range n.nodes {
		g.Edges = append(g.Edges, parent(i+1, scopeAt(node)))
		g.Decls = append(g.Decls, impl.Spot{Scope: i + 1, Name: n.nameAt(ownX(node))})
		decls = append(decls, ownX(node))
	}
	for _, path := range n.ids {
		g.Refs = append(g.Refs, impl.Spot{Scope: scopeAt(path), Name: n.nameAt(path)})
	}
	return g, decls, n.ids
}

// checkScopesOf compares with the model, and asks that each ref Resolves to what declares it.
func checkScopesOf(t *testing.T, x impl.Tree) impl.Sg {
	t.Helper()
	g, decls, refs, code := impl.ScopesOf(x)
	want, wantDecls, wantRefs := scopesBy(x)
	if !sameSg(g, want) || !slices.EqualFunc(decls, wantDecls, slices.Equal[[]int]) || !slices.EqualFunc(refs, wantRefs, slices.Equal[[]int]) || code != impl.OK {
		t.Fatalf("ScopesOf %s: %v, %v, %v, %d and should be %v, %v, %v", written(x), g, decls, refs, code, want, wantDecls, wantRefs)
	}
	n := namingOf(x)
	for i, path := range refs {
		list, code := impl.Resolve(g, i)
		if by := n.declaredBy(path); by >= 0 && (!slices.Equal(list, []int{by}) || code != impl.OK) || by < 0 && code != impl.ErrUndef {
			t.Fatalf("%s: the Id at %v Resolves to %v, %d and should to %d", written(x), path, list, code, by)
		}
	}
	return g
}

// anewBy is the first of name1, name2 .. that no one has.
func anewBy(name string, taken []string) string {
	for i := 1; ; i++ {
		if next := regexp.MustCompile(`[0-9]*$`).ReplaceAllString(name, "") + strconv.Itoa(i); !slices.Contains(taken, next) {
			return next
		}
	}
}

// substBy is what the document says of Subst, by paths: first names are called anew in t, then u is put at each place.
func substBy(x impl.Tree, name string, u impl.Tree) (impl.Tree, int) {
	n, nu := namingOf(x), namingOf(u)
	var places [][]int
	for _, path := range n.freeIds() {
		if n.nameAt(path) == name {
			places = append(places, path)
		}
	}
	var free []string
	for _, path := range nu.freeIds() {
		free = append(free, nu.nameAt(path))
	}
	taken := []string{name}
	for _, both := range []impl.Tree{x, u} {
		for _, path := range pathsOf(both) {
			if at := under(both, path); at.Name == "Id" {
				taken = append(taken, at.Text)
			}
		}
	}
	put := x
	for i, node := range n.nodes {
		own := n.nameAt(ownX(node))
		if !slices.Contains(free, own) || !slices.ContainsFunc(places, func(path []int) bool { return begins(path, n.scopeOf(node)) }) {
			continue
		}
		anew := anewBy(own, taken)
		taken = append(taken, anew)
		put = putBy(put, ownX(node), id(anew))
		for _, path := range n.ids {
			if n.declaredBy(path) == i {
				put = putBy(put, path, id(anew))
			}
		}
	}
	for _, path := range places {
		put = putBy(put, path, u)
	}
	if !isTermBy(put) {
		return impl.Tree{}, impl.ErrFull
	}
	return put, impl.OK
}

// meanings are a line for each Id that is no x of a Lam or Let: its path, and the path of what declares it, or its name when it stands free.
func meanings(x impl.Tree) []string {
	n := namingOf(x)
	var lines []string
	for _, path := range n.ids {
		if by := n.declaredBy(path); by >= 0 {
			lines = append(lines, fmt.Sprint(path, " is ", n.nodes[by]))
		} else {
			lines = append(lines, fmt.Sprint(path, " is ", n.nameAt(path)))
		}
	}
	return lines
}

// meaningsPut are those that must be when u is put in the place of a name: each Id of t means what it meant, and where the name stood free each Id of u means what it did in u.
func meaningsPut(x impl.Tree, name string, u impl.Tree) []string {
	n, nu := namingOf(x), namingOf(u)
	var lines []string
	for i, line := range meanings(x) {
		path := n.ids[i]
		if n.nameAt(path) != name || n.declaredBy(path) >= 0 {
			lines = append(lines, line)
			continue
		}
		for _, within := range nu.ids {
			full := append(slices.Clone(path), within...)
			if by := nu.declaredBy(within); by >= 0 {
				lines = append(lines, fmt.Sprint(full, " is ", append(slices.Clone(path), nu.nodes[by]...)))
			} else {
				lines = append(lines, fmt.Sprint(full, " is ", nu.nameAt(within)))
			}
		}
	}
	return lines
}

// checkSubst compares with the model, and asks that what stood free stands free, and nothing else.
func checkSubst(t *testing.T, x impl.Tree, name string, u impl.Tree) (impl.Tree, int) {
	t.Helper()
	put, code := impl.Subst(x, name, u)
	if want, wantCode := substBy(x, name, u); !sameTree(put, want) || code != wantCode {
		t.Fatalf("Subst of %s in %.400s by %.400s: %.400s, %d and should be %.400s, %d", name, written(x), written(u), written(put), code, written(want), wantCode)
	}
	if code != impl.OK {
		return put, code
	}
	if got, want := meanings(put), meaningsPut(x, name, u); !impl.TermOK(put) || !slices.Equal(got, want) {
		t.Fatalf("Subst of %s in %s by %s: %s\n%q and should be\n%q", name, written(x), written(u), written(put), got, want)
	}
	return put, code
}

// wantSubst asks for a term that is written down, too.
func wantSubst(t *testing.T, why string, x string, name string, u string, want string) {
	t.Helper()
	if put, code := checkSubst(t, term(x), name, term(u)); code != impl.OK || !sameTree(put, term(want)) {
		t.Errorf("%s: %s in %s by %s: %s, %d and should be %s", why, name, x, u, written(put), code, want)
	}
}

var termNames = []string{"x", "x", "y", "y", "y1", "y2", "z", "x1", "y12"}

func someTerm(r *rand.Rand, depth int) impl.Tree {
	part := func() impl.Tree { return someTerm(r, depth-1) }
	if depth == 1 || r.Intn(6) == 0 {
		return oneOf(r, id(oneOf(r, termNames...)), id(oneOf(r, termNames...)), id(oneOf(r, termNames...)), leaf("Num", strconv.Itoa(r.Intn(12))), leaf("Yes", ""), leaf("No", ""))
	}
	switch r.Intn(9) {
	case 0, 1, 2:
		return lam(oneOf(r, termNames...), part())
	case 3, 4, 5:
		return let(oneOf(r, termNames...), part(), part())
	case 6:
		return node("If", part(), part(), part())
	}
	return node(oneOf(r, "App", "Add", "Eq"), part(), part())
}
