package tests

import (
	"strings"
	"testing"

	"loop.example/g00037/impl"
)

// firstWrong is what GrammarCheck is to tell of a grammar that is one.
func firstWrong(m model) (int, string) {
	met := " Lit "
	names := []string{}
	for _, token := range m.tokens {
		names = append(names, token.Name)
	}
	for _, rule := range m.rules {
		names = append(names, rule.name)
	}
	for _, name := range names {
		if strings.Contains(met, " "+name+" ") {
			return impl.ErrTwice, name
		}
		met += name + " "
	}
	met = " "
	for _, level := range m.levels {
		for _, lit := range level.Lits {
			if strings.Contains(met, " "+lit+" ") {
				return impl.ErrTwice, lit
			}
			met += lit + " "
		}
	}
	if len(m.rules) == 0 {
		return impl.ErrNone, ""
	}
	for _, token := range m.tokens {
		if empty, code := impl.RxMatch(token.Rx, ""); code != impl.OK || empty {
			return impl.ErrRx, token.Name
		}
	}
	for _, rule := range m.rules {
		for _, alt := range rule.alts {
			if name := m.undefined(alt.items); name != "" {
				return impl.ErrUndef, name
			}
		}
	}
	return impl.OK, ""
}

// undefined is the first name in items that stands for nothing.
func (m model) undefined(items []*gItem) string {
	for _, item := range items {
		if item.kind == 'n' && !m.defines(item.s) {
			return item.s
		}
		for _, alt := range item.alts {
			if name := m.undefined(alt); name != "" {
				return name
			}
		}
	}
	return ""
}

func (m model) defines(name string) bool {
	for _, token := range m.tokens {
		if token.Name == name && !token.Skip {
			return true
		}
	}
	for _, rule := range m.rules {
		if rule.name == name {
			return true
		}
	}
	return false
}

func TestFirstThingThatIsWrong(t *testing.T) {
	told := map[int]int{}
	for _, ok := range []bool{false, true} {
		for _, m := range someModels(4000, ok) {
			wantCode, wantName := firstWrong(m)
			told[wantCode]++
			g := m.grammar()
			if code, name := impl.GrammarCheck(g); code != wantCode || name != wantName {
				t.Fatalf("%s: %d %q, not %d %q", m.shown(), code, name, wantCode, wantName)
			}
			if wantCode != impl.OK {
				unlowered(t, g)
			}
			if ok && wantCode != impl.OK {
				t.Fatalf("%s: %d", m.shown(), wantCode)
			}
		}
	}
	for _, code := range []int{impl.OK, impl.ErrTwice, impl.ErrNone, impl.ErrRx, impl.ErrUndef} {
		if told[code] < 50 {
			t.Error(code, told[code])
		}
	}
}

func TestWhatIsToldFirst(t *testing.T) {
	for _, x := range []struct {
		text string
		code int
		name string
	}{
		{"token T~a~;token T~b~;", impl.ErrTwice, "T"},
		{"token T~a~;skip T~b~;A=;", impl.ErrTwice, "T"},
		{"A=;B=;A=;", impl.ErrTwice, "A"},
		{"A=;token A~x~;", impl.ErrTwice, "A"},
		{"A=;B=;B=;A=;", impl.ErrTwice, "B"},
		{"A=;A=;token T~x~;skip T~x~;", impl.ErrTwice, "T"},
		{"A=;A=;token Lit~x~;", impl.ErrTwice, "Lit"},
		{"Lit=;", impl.ErrTwice, "Lit"},
		{"A=;Lit=;A=;", impl.ErrTwice, "Lit"},
		{"A=;A=;Lit=;", impl.ErrTwice, "A"},
		{"skip Lit~x~;A=;", impl.ErrTwice, "Lit"},
		{"left'+''+';A=;A=;", impl.ErrTwice, "A"},
		{"left'+''+';A=;", impl.ErrTwice, "+"},
		{"left'+''-';none'*''-''+';A=;", impl.ErrTwice, "-"},
		{"left'+''+';", impl.ErrTwice, "+"},
		{"left'Lit''A';A=;", impl.OK, ""},
		{"token T~(~;", impl.ErrNone, ""},
		{"token T~x~;left'+';", impl.ErrNone, ""},
		{"token T~x~;token U~~;token V~(~;A=B;", impl.ErrRx, "U"},
		{"token T~x~;skip U~x*~;A=B;", impl.ErrRx, "U"},
		{"token T~x~;token U~(~;A=B;", impl.ErrRx, "U"},
		{"token T~x|~;A=;", impl.ErrRx, "T"},
		{"A=B C;", impl.ErrUndef, "B"},
		{"A=([C]B)D;", impl.ErrUndef, "C"},
		{"A=A(A|{A|[B]});", impl.ErrUndef, "B"},
		{"A=a;a=A;", impl.OK, ""},
		{"A=Lit;", impl.ErrUndef, "Lit"},
		{"skip S~ ~;token T~x~;A=T S;", impl.ErrUndef, "S"},
		{"A=a;", impl.ErrUndef, "a"},
		{"A=B;B=;", impl.OK, ""},
		{"A='B'#C;", impl.OK, ""},
		{"token T~" + strings.Repeat("x", impl.MaxRx) + "~;A=T;", impl.OK, ""},
	} {
		g := mustRead(t, "language a;"+x.text)
		if code, name := impl.GrammarCheck(g); code != x.code || name != x.name {
			t.Errorf("%s: %d %q", x.text, code, name)
		}
		if x.code != impl.OK {
			unlowered(t, g)
		}
	}
}
