package lex

import (
	"strconv"
	"strings"
)

// What Word returns.
const (
	free   = 0
	used   = 1
	unused = 2
)

// Word returns 1 if s is a reserved word of the language, 2 if it is one of
// ECMAScript alone, and 0 otherwise.
func Word(s string) int {
	switch s {
	case "break", "catch", "const", "continue", "delete", "else", "false",
		"finally", "function", "if", "in", "let", "new", "null", "return",
		"this", "throw", "true", "try", "typeof", "undefined", "while":
		return used
	case "await", "case", "class", "debugger", "default", "do", "enum",
		"export", "extends", "for", "implements", "import", "instanceof",
		"interface", "package", "private", "protected", "public", "static",
		"super", "switch", "var", "void", "with", "yield":
		return unused
	}
	return free
}

// signs are the punctuators; each stands before those that it begins with.
var signs = [...]string{
	"===", "!==",
	"&&", "||", "<=", ">=",
	"{", "}", "(", ")", "[", "]", ";", ",", ".", "?", ":",
	"=", "<", ">", "+", "-", "*", "/", "%", "!",
}

// sign returns the longest punctuator that s begins with, if there is one.
func sign(s string) (string, bool) {
	for _, text := range signs {
		if strings.HasPrefix(s, text) {
			return text, true
		}
	}
	return "", false
}

// hexDigits is how many digits the escape sequence of a unit has.
const hexDigits = 4

// escape returns the unit that the escape sequence at the beginning of s stands
// for, and its length, which is 0 if it is not valid.
func escape(s string) (uint16, int) {
	if len(s) < 2 {
		return 0, 0
	}
	c, after := s[1], s[2:]
	switch c {
	case 'n':
		return '\n', 2
	case 't':
		return '\t', 2
	case '\\', '"', '\'':
		return uint16(c), 2
	case 'u':
		if len(after) < hexDigits {
			return 0, 0
		}
		unit, err := strconv.ParseUint(after[:hexDigits], 16, 16)
		if err != nil {
			return 0, 0
		}
		return uint16(unit), 2 + hexDigits
	}
	return 0, 0
}
