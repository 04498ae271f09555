package parse

import (
	"strings"
	"testing"

	"understudy/api"
)

// dice is a row of numbers that is always the same.
type dice uint32

func (d *dice) roll(n int) int {
	*d = *d*1664525 + 1013904223
	return int(*d>>8) % n
}

// follows checks what Parse makes of tokens and one more behind them, where p
// is what the model makes of tokens, and returns what it makes of all.
func (m *model) follows(t *testing.T, p path, tokens []string, token string) (path, bool) {
	t.Helper()
	before := strings.Join(tokens, " ")
	if before != "" {
		before += " "
	}
	next, e := m.after(p, token)
	if e != api.OK {
		refuses(t, "P1301", before+"^"+token, e)
		refuses(t, "P1301", before+"^"+token+" ) ; a", e)
		return path{}, false
	}
	whole := before + token
	if e := m.end(next); e != api.OK {
		refuses(t, "P1301", whole+" ^", e)
	} else {
		accepts(t, whole)
	}
	return next, true
}

// extend checks every program of tokens that begins with those of tokens and
// has up to more others.
func (m *model) extend(t *testing.T, p path, tokens, others []string, more int) {
	for _, token := range others {
		next, ok := m.follows(t, p, tokens, token)
		if t.Failed() {
			return
		}
		if ok && more > 1 {
			m.extend(t, next, append(tokens[:len(tokens):len(tokens)], token), others, more-1)
		}
	}
}

// along returns the path of tokens, which must be the beginning of a program.
func (m *model) along(t *testing.T, tokens []string) path {
	t.Helper()
	p := m.start()
	for _, token := range tokens {
		next, e := m.after(p, token)
		if e != api.OK {
			t.Fatalf("the model refuses %q in %q", token, tokens)
		}
		p = next
	}
	return p
}

func TestEveryShortProgram(t *testing.T) {
	m := newModel()
	m.extend(t, m.start(), nil, everyToken(), 4)
}

// beginnings are beginnings of programs in each place of the grammar, with
// tokens that may be of use behind it.
func beginnings() [][2]string {
	return [][2]string{
		{"if ( a )", "if ( a ) else ; {"},
		{"if ( a ) if ( a ) ;", "else ; a }"},
		{"try { }", "catch finally ( a ) { } ;"},
		{"try { } catch (", "a ) { } finally ;"},
		{"let a", "= a ; , . 1"},
		{"const a", "= a ; , ("},
		{"function a (", "a , ) { } ="},
		{"function a ( a ) {", "a ; } return {"},
		{"x =", "new a . [ ] ( ) ;"},
		{"x = new", "a . [ ] ( ) new"},
		{"x = {", "get : a ( ) { } ,"},
		{"x = { set", "set : a ( ) { } ,"},
		{"x = { a :", "a , : } { ="},
		{"x = { [", "a ] : , } ="},
		{"x = function", "a ( ) { } ,"},
		{"x = delete", "a . ( ) [ ] delete ;"},
		{"( delete (", "a . ( ) = ;"},
		{"a ?", "a : ? = ( ) ;"},
		{"( a", ". = ) ( a ;"},
		{"( ( a", ". = ) + a ;"},
		{"[", "a , ] [ = 1"},
		{"a (", "a , ) ( ; ."},
		{"while (", "a ) ; = { }"},
		{"{", "{ } a ; : return"},
		{"return", "a ; { } function ("},
		{"a", "+ - ! * a ; in"},
		{"a", "|| && === < + ; a ="},
	}
}

func TestProgramsThatGoOnForALittle(t *testing.T) {
	m := newModel()
	for _, b := range beginnings() {
		tokens := strings.Fields(b[0])
		m.extend(t, m.along(t, tokens), tokens, strings.Fields(b[1]), 5)
	}
}

// wander checks a program that begins with those of tokens and has up to more
// that are taken by chance, of which those that can not follow are left out.
func (m *model) wander(t *testing.T, d *dice, tokens, others []string, more int) {
	t.Helper()
	p := m.along(t, tokens)
	for tries := 0; tries < more && !t.Failed(); tries++ {
		token := others[d.roll(len(others))]
		if next, ok := m.follows(t, p, tokens, token); ok {
			p, tokens = next, append(tokens, token)
		}
	}
}

// likely has every token, and those that most often can follow more than once.
func likely() []string {
	return append(everyToken(), strings.Fields("a b ; ; ; ( ( ) ) ) { } } } [ ] ] , : = . + - ! delete new function get set if else try")...)
}

func TestProgramsMadeByChance(t *testing.T) {
	m := newModel()
	for seed := range 500 {
		d := dice(seed)
		m.wander(t, &d, nil, likely(), 200)
	}
}

func TestDeepProgramsMadeByChance(t *testing.T) {
	m := newModel()
	places := []string{
		times(96, "{ "), times(90, "{ ") + "x = ", times(48, "( "), times(90, "{ ") + "x = { a : [ ",
		times(94, "if ( a ) "), times(94, "if ( a ) ; else "), "x = " + times(94, "! "), "x = " + times(47, "[ "),
		times(31, "x = { a : ") + "! ! ", times(20, "x = function ( ) { ") + times(15, "{ "), times(31, "delete ( "),
		times(97, "a = "), times(97, "a ? "), times(48, "new a ( "), times(48, "a [ "), times(19, "( { get a ( ) { ") + "{ ",
	}
	for seed := range 160 {
		d := dice(seed)
		m.wander(t, &d, strings.Fields(places[seed%len(places)]), likely(), 80)
	}
}
