package lex

import (
	"slices"
	"strings"
	"testing"
)

// usedWords and unusedWords are the chapter's lists.
func usedWords() []string {
	return strings.Fields(`break catch const continue delete else false finally function if in
		let new null return this throw true try typeof undefined while`)
}

func unusedWords() []string {
	return strings.Fields(`await case class debugger default do enum export extends for implements
		import instanceof interface package private protected public static super switch var void
		with yield`)
}

// classOf is P1201 by the lists.
func classOf(s string) int {
	switch {
	case slices.Contains(usedWords(), s):
		return 1
	case slices.Contains(unusedWords(), s):
		return 2
	}
	return 0
}

func TestWordOfTheLists(t *testing.T) {
	if len(usedWords()) != 22 || len(unusedWords()) != 25 {
		t.Fatalf("%d and %d words", len(usedWords()), len(unusedWords()))
	}
	for _, s := range usedWords() {
		if got := Word(s); got != 1 {
			t.Errorf("P1201: Word(%q) = %d, want 1", s, got)
		}
	}
	for _, s := range unusedWords() {
		if got := Word(s); got != 2 {
			t.Errorf("P1201: Word(%q) = %d, want 2", s, got)
		}
	}
}

func TestWordOfOtherStrings(t *testing.T) {
	others := []string{
		"", " ", "a", "x", "_", "$", "get", "set", "of", "async", "as", "from", "eval", "arguments",
		"NaN", "Infinity", "Object", "Proxy", "Reflect", "print", "constructor", "toString", "__proto__",
		"boolean", "int", "goto", "native", "abstract", "target", "meta", "elseif", "const1", "Undefined",
		"0", "1", "12", "{", "===", "\"if\"", "if ", " if", "if\n", "i f", "if;", "if\x00", "\x00if",
		"\xff", "i\xff", "\xed\xa0\xbd", "ıf", "\u0456f", "ｉｆ", "İf",
		strings.Repeat("if", 1000), strings.Repeat("a", 1<<20),
	}
	for _, s := range others {
		if got := Word(s); got != 0 {
			t.Errorf("P1201: Word(%.20q) = %d, want 0", s, got)
		}
	}
}

// near returns all strings that differ from s by one byte of a few.
func near(s string) []string {
	list := []string{strings.ToUpper(s), strings.ToUpper(s[:1]) + s[1:], s + s}
	for i := 0; i <= len(s); i++ {
		for _, c := range "abcdefghijklmnopqrstuvwxyzEI_$0 \\\x00" {
			list = append(list, s[:i]+string(c)+s[i:])
			if i < len(s) {
				list = append(list, s[:i]+string(c)+s[i+1:])
			}
		}
		if i < len(s) {
			list = append(list, s[:i]+s[i+1:], s[:i], s[i:])
		}
	}
	return list
}

func TestWordOfNearStrings(t *testing.T) {
	for _, s := range append(usedWords(), unusedWords()...) {
		for _, n := range near(s) {
			if got, want := Word(n), classOf(n); got != want {
				t.Errorf("P1201: Word(%q) = %d, want %d", n, got, want)
			}
		}
	}
}

func TestWordOfShortStrings(t *testing.T) {
	list := []string{""}
	for range 3 {
		for _, s := range list {
			for c := 'a'; c <= 'z'; c++ {
				n := s + string(c)
				list = append(list, n)
				if got, want := Word(n), classOf(n); got != want {
					t.Fatalf("P1201: Word(%q) = %d, want %d", n, got, want)
				}
			}
		}
	}
}
