package parse

import (
	"strings"

	"understudy/api"
	"understudy/lex"
)

// grammar is the grammar of P1301 once more, one alternative a line, without
// any that is empty. It tells apart what may be assigned to (T) and deleted (L),
// and statements that an `else` may follow (M). A `!never` is no token at all:
// an operand that may not be deleted is seen to its end before it is refused.
const grammar = `
	Program > List
	List > S
	List > List S
	S > if ( A ) S
	S > if ( A ) M else S
	S > while ( A ) S
	S > Other
	M > if ( A ) M else M
	M > while ( A ) M
	M > Other
	Other > let name ;
	Other > let name = A ;
	Other > const name = A ;
	Other > function name F
	Other > return ;
	Other > return A ;
	Other > throw A ;
	Other > try B catch ( name ) B
	Other > try B finally B
	Other > try B catch ( name ) B finally B
	Other > B
	Other > break ;
	Other > continue ;
	Other > ;
	Other > Begins ;
	Begins > A
	B > { }
	B > { List }
	F > ( ) B
	F > ( Names ) B
	Names > name
	Names > Names , name
	A > C
	A > T = A
	C > O
	C > O ? A : A
	O > N
	O > O || N
	N > E
	N > N && E
	E > R
	E > E === R
	E > E !== R
	R > P
	R > R < P
	R > R > P
	R > R <= P
	R > R >= P
	R > R in P
	P > M1
	P > P + M1
	P > P - M1
	M1 > U
	M1 > M1 * U
	M1 > M1 / U
	M1 > M1 % U
	U > ! U
	U > - U
	U > typeof U
	U > delete Place
	U > delete U !never
	U > X
	X > Y
	X > new Made G
	X > X . any
	X > X [ A ]
	X > X G
	Made > Y
	Made > Made . any
	Made > Made [ A ]
	T > Target
	Target > X1
	X1 > name
	X1 > Member
	X1 > ( Inner )
	Inner > Target
	Place > Deleted
	Deleted > Member
	Deleted > ( Within )
	Within > Removed
	Removed > Deleted
	Member > X . any
	Member > X [ A ]
	G > ( )
	G > ( As )
	As > A
	As > As , A
	Y > number
	Y > string
	Y > true
	Y > false
	Y > null
	Y > undefined
	Y > this
	Y > name
	Y > ( A )
	Y > [ ]
	Y > [ As ]
	Y > { }
	Y > { Ds }
	Y > function F
	Y > function name F
	Ds > D
	Ds > Ds , D
	D > K : A
	D > [ A ] : A
	D > get K ( ) B
	D > set K ( name ) B
	K > any
	K > string
	K > number
`

// deeper has the nonterminals that nest.
const deeper = " S M A U Target Inner Place Within Removed "

// rule is a line of grammar.
type rule struct {
	left  int
	right []int
}

// model recognizes programs after Earley: it keeps every way in which tokens can
// be a beginning of a program. Symbols are numbers: those of nonterminals are
// below 0, and those of terminals are places in names.
type model struct {
	rules   []rule
	byLeft  map[int][]int
	names   []string
	nests   map[int]bool
	program int
	begins  int
	known   map[string][]bool
}

func newModel() *model {
	m := &model{byLeft: map[int][]int{}, nests: map[int]bool{}, known: map[string][]bool{}}
	numbers := map[string]int{}
	lines := strings.Split(strings.TrimSpace(grammar), "\n")
	for _, line := range lines {
		left, _, _ := strings.Cut(strings.TrimSpace(line), " > ")
		if numbers[left] == 0 {
			numbers[left] = -1 - len(numbers)
			m.nests[numbers[left]] = strings.Contains(deeper, " "+left+" ")
		}
	}
	for _, line := range lines {
		left, right, _ := strings.Cut(strings.TrimSpace(line), " > ")
		r := rule{left: numbers[left]}
		for _, s := range strings.Fields(right) {
			if _, ok := numbers[s]; !ok {
				numbers[s] = len(m.names)
				m.names = append(m.names, s)
			}
			r.right = append(r.right, numbers[s])
		}
		m.byLeft[r.left] = append(m.byLeft[r.left], len(m.rules))
		m.rules = append(m.rules, r)
	}
	m.program, m.begins = numbers["Program"], numbers["Begins"]
	return m
}

// fits returns which terminals token is.
func (m *model) fits(token string) []bool {
	if list, ok := m.known[token]; ok {
		return list
	}
	list := make([]bool, len(m.names))
	for i, s := range m.names {
		list[i] = s == token || s == kindOf(token) || s == "any" && (kindOf(token) == "name" || lex.Word(token) == 1)
	}
	m.known[token] = list
	return list
}

// kindOf returns the kind of a token that stands for many.
func kindOf(token string) string {
	switch c := token[0]; {
	case '0' <= c && c <= '9':
		return "number"
	case c == '\'' || c == '"':
		return "string"
	case ('a' <= c && c <= 'z' || c == '$' || c == '_') && lex.Word(token) == 0:
		return "name"
	}
	return "sign"
}

// item is a rule that has been followed up to dot since the token with number
// from; within it, all is depth deep.
type item struct{ rule, dot, from, depth int }

// state is what may be after some tokens. The items of before are those that
// the last token has left, and those of all have been reached from these: of
// the first list if what follows begins a block or a function, of the second
// otherwise.
type state struct {
	before []item
	all    [2][]item
	tried  [2]bool
	deep   [2]bool
}

// path is a beginning of a program: the state before each of its tokens, and
// the list of each that holds for the token.
type path struct {
	states []*state
	which  []int
}

func (m *model) start() path {
	first := &state{}
	for _, r := range m.byLeft[m.program] {
		first.before = append(first.before, item{rule: r})
	}
	return path{[]*state{first}, nil}
}

// reached returns the items of the last state of p.
func (m *model) reached(p path, which int) []item {
	last := p.states[len(p.states)-1]
	if last.tried[which] {
		return last.all[which]
	}
	last.tried[which] = true
	here := len(p.states) - 1
	seen := map[item]bool{}
	var all []item
	add := func(i item) {
		if !seen[i] {
			seen[i] = true
			all = append(all, i)
		}
	}
	for _, i := range last.before {
		add(i)
	}
	for n := 0; n < len(all); n++ {
		i := all[n]
		r := m.rules[i.rule]
		if i.dot == len(r.right) {
			m.complete(p, i, add)
			continue
		}
		next := r.right[i.dot]
		if next >= 0 || next == m.begins && which == 0 {
			continue
		}
		depth := i.depth
		if m.nests[next] {
			depth++
		}
		if depth > api.MaxNest {
			last.deep[which] = true
			continue
		}
		for _, k := range m.byLeft[next] {
			add(item{k, 0, here, depth})
		}
	}
	last.all[which] = all
	return all
}

// complete goes on with the items that have been waiting for what i has ended.
func (m *model) complete(p path, i item, add func(item)) {
	left := m.rules[i.rule].left
	depth := i.depth
	if m.nests[left] {
		depth--
	}
	if i.from == len(p.which) {
		return // all rules have a token, so only the first state has such items
	}
	for _, w := range p.states[i.from].all[p.which[i.from]] {
		right := m.rules[w.rule].right
		if w.depth == depth && w.dot < len(right) && right[w.dot] == left {
			add(item{w.rule, w.dot + 1, w.from, w.depth})
		}
	}
}

// after returns p with one more token, or the error at this token.
func (m *model) after(p path, token string) (path, api.Errno) {
	which := 1
	if token == "{" || token == "function" {
		which = 0
	}
	fits := m.fits(token)
	next := &state{}
	for _, i := range m.reached(p, which) {
		right := m.rules[i.rule].right
		if i.dot < len(right) && right[i.dot] >= 0 && fits[right[i.dot]] {
			next.before = append(next.before, item{i.rule, i.dot + 1, i.from, i.depth})
		}
	}
	if len(next.before) == 0 {
		return path{}, p.fault(which)
	}
	n := len(p.which)
	return path{append(p.states[:n+1:n+1], next), append(p.which[:n:n], which)}, api.OK
}

// fault returns the error of a token that does not fit at the end of p.
func (p path) fault(which int) api.Errno {
	if p.states[len(p.states)-1].deep[which] {
		return api.ErrDeep
	}
	return api.ErrSyntax
}

// end returns the error at the end of p, if it is not a program.
func (m *model) end(p path) api.Errno {
	if len(p.which) == 0 {
		return api.OK
	}
	for _, i := range m.reached(p, 1) {
		r := m.rules[i.rule]
		if r.left == m.program && i.dot == len(r.right) {
			return api.OK
		}
	}
	return p.fault(1)
}
