package tests

import (
	"fmt"
	"math/rand"
	"strings"
	"testing"

	"loop.example/g00037/impl"
)

// someLanguage is the text of one in which blanks and line feeds are Skip, with notes of some kind; it need not be a language.
func someLanguage(r *rand.Rand) string {
	rules := 1 + r.Intn(4)
	lang := "language some; token Num ~[0-9]+~; token Id ~[c-z]+~; " +
		oneOf(r, `skip Ws ~[ \n]+~; `, `skip Ws ~ ~; skip Lf ~\n~; `, `skip Ws ~ +~; skip Lf ~\n *~; `) +
		oneOf(r, `skip Note ~%.*~; `, `skip Note ~%[^\n]*\n~; `, `skip Note ~#[^#\n]*#~; skip Rem ~%+~; `, `skip Note ~#[^#]*#~; `) +
		oneOf(r, "", "left '+'; right '='; ", "none '+'; ")
	for rule := range rules {
		var ways []string
		for range 1 + r.Intn(3) {
			ways = append(ways, someAlt(r, rules, 4, 2)+oneOf(r, "", "", " # Label"))
		}
		lang += fmt.Sprintf("R%d = %s; ", rule, strings.Join(ways, " | "))
	}
	return lang
}

// someAlt has fewer items than most.
func someAlt(r *rand.Rand, rules int, most int, depth int) string {
	var items []string
	for range r.Intn(most) {
		items = append(items, someItem(r, rules, depth))
	}
	return strings.Join(items, " ")
}

func someItem(r *rand.Rand, rules int, depth int) string {
	if depth == 0 || r.Intn(3) > 0 {
		return oneOf(r, "'a'", "'b'", "'+'", "'('", "')'", "'if'", "'=='", "'='", "Num", "Id", fmt.Sprintf("R%d", r.Intn(rules)), fmt.Sprintf("R%d", r.Intn(rules)))
	}
	within := someAlt(r, rules, 3, depth-1)
	if r.Intn(2) == 0 {
		within += " | " + someAlt(r, rules, 3, depth-1)
	}
	return oneOf(r, "("+within+")", "["+within+"]", "{"+within+"}")
}

// someSpoken are languages of which the start makes something.
func someSpoken(t *testing.T, r *rand.Rand, n int) []tongue {
	t.Helper()
	words := map[string][]string{"Num": {"0", "12", "34567"}, "Id": {"x", "cd", "zzz"}}
	var list []tongue
	for len(list) < n {
		lang := someLanguage(r)
		if _, _, at := impl.Reading(lang, ""); at < 0 {
			continue
		}
		l := tongueOf(t, lang, words, "", "% so\n", "#a b#", "%\n", "##", "%%", "  ")
		if mustFacts(t, l.b).Makes[0] {
			list = append(list, l)
		}
	}
	return list
}

// Promises 11, 14 and 23, from the text of a language and a text in it.
func TestTextsInSomeLanguages(t *testing.T) {
	r := rand.New(rand.NewSource(193))
	read, set, kept := 0, 0, 0
	for _, l := range someSpoken(t, r, 250) {
		for range 6 {
			text := l.someText(r, 2+r.Intn(5))
			x, code, _ := checkReading(t, l, text)
			checkComplete(t, l, text[:r.Intn(len(text)+1)])
			if code != impl.OK {
				continue
			}
			read++
			if yield, code := impl.TreeYield(x); yield != text || code != impl.OK {
				t.Fatalf("%s: %q has the Yield %q, %d", l.source, text, yield, code)
			}
			if staysSet(t, l.rules, x, oneOf(r, 0, 1+r.Intn(12), 13+r.Intn(20), 80), l.read) {
				set++
			}
			e := someEdit(r, len(text), 0)
			_, stay, _ := checkRelex(t, l.rules, text, edit(e.At, min(e.Del, r.Intn(5)), l.someIns(r)))
			kept += stay.Front + stay.Back
		}
	}
	if read < 500 || set < 400 || kept < 1000 {
		t.Error(read, set, kept)
	}
}

// Promise 30, in many languages.
func TestDocumentsInSomeLanguages(t *testing.T) {
	r := rand.New(rand.NewSource(194))
	for _, l := range someSpoken(t, r, 60) {
		names := docNames(1 + r.Intn(4))
		msgs, replies := someScript(r, l, names, 50)
		wantReplies(t, l.source, msgs, replies)
		for _, name := range names {
			own, told := onlyOf(name, msgs, replies)
			wantReplies(t, l.source, own, told)
		}
	}
}
