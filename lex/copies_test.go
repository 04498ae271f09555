package lex

import (
	"bytes"
	"testing"

	"understudy/api"
)

// samples are arguments of Tokens: some are right, some are not.
func samples() []string {
	return []string{
		"", "a.b", "let x = 'a\\n' + \"\\ud83d\"; // end", "if (x === 10) { f(); }", "/* */ \"é\" 7",
		"a #", "'\\x'", "/*", "\xff", "var", string(make([]byte, api.MaxSource+1)),
	}
}

func TestArgumentsAreNeitherModifiedNorKept(t *testing.T) {
	for _, s := range samples() {
		whole := []byte("<" + s + ">spare")
		before := bytes.Clone(whole)
		list, at, e := Tokens(whole[1 : 1+len(s)])
		if !bytes.Equal(whole, before) {
			t.Errorf("P1203: Tokens(%.40q) modified its argument or what follows", s)
		}
		want := show(list, at, e)
		for i := range whole {
			whole[i] = 'z'
		}
		if got := show(list, at, e); got != want {
			t.Errorf("P1203: Tokens(%.40q) kept its argument: %.300s, then %.300s", s, want, got)
		}
	}
}

func TestResultsAreNewlyAllocated(t *testing.T) {
	for _, s := range samples() {
		b := []byte(s)
		first, at, e := Tokens(b)
		want := show(first, at, e)
		list := first[:cap(first)]
		for i := range list {
			list[i] = api.Token{Kind: 9, At: 9, Num: 9, Text: "z"}
		}
		second, at, e := Tokens(b)
		if got := show(second, at, e); got != want {
			t.Errorf("P1203: Tokens(%.40q) = %.300s, then %.300s", s, want, got)
		}
	}
}

func TestResultsDependOnArgumentsAlone(t *testing.T) {
	var forth []string
	for _, s := range samples() {
		forth = append(forth, show(Tokens([]byte(s))))
	}
	list := samples()
	for i := len(list) - 1; i >= 0; i-- {
		if got := show(Tokens([]byte(list[i]))); got != forth[i] {
			t.Errorf("P1203: Tokens(%.40q) = %.300s, then %.300s", list[i], forth[i], got)
		}
	}
	words := append(append(usedWords(), "", "a", "If"), unusedWords()...)
	for range 2 {
		for i := len(words) - 1; i >= 0; i-- {
			if Word(words[i]) != classOf(words[i]) {
				t.Errorf("P1203: Word(%q) changed", words[i])
			}
		}
	}
	if got := show(Tokens(nil)); got != show(Tokens([]byte{})) {
		t.Errorf("P1203: a nil slice and an empty one differ: %s", got)
	}
}
