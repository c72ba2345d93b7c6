package expr_test

import (
	"math/rand"
	"slices"
	"strings"
	"testing"

	"boscage/api"
	"boscage/expr"
	"boscage/token"
)

// The grammar's lines, each rule by itself, as what a symbol stands for, the Op that it makes (`-` for none) and the symbols that it is written by. Marks stand for themselves.
const grammar = `
or - and
or or or OR and
and - not
and and and AND not
not - cmp
not not NOT not
cmp - cat
cmp = cat = cat
cmp <> cat <> cat
cmp < cat < cat
cmp <= cat <= cat
cmp > cat > cat
cmp >= cat >= cat
cmp isnull cat IS NULL
cmp notnull cat IS NOT NULL
cmp like cat LIKE cat
cmp not-like cat NOT LIKE cat
cmp in cat IN ( list )
cmp not-in cat NOT IN ( list )
cmp between cat BETWEEN cat AND cat
cmp not-between cat NOT BETWEEN cat AND cat
cat - sum
cat || cat || sum
sum - product
sum + sum + product
sum - product
sum minus sum - product
product - sign
product * product * sign
product / product / sign
product % product % sign
sign - one
sign lit - anynumber
sign neg - sign
one - number
one - text
one - blob
one null NULL
one true TRUE
one false FALSE
one col name
one col name . name
one call name ( )
one call name ( list )
one call countname ( star )
one - ( or )
star star *
list - or
list - list , or`

// Symbols that have rules are numbers below lines; the others are one token each.
const lines = 16

type rule struct {
	op string
	by []int
}

// span is a question: whether a symbol, or what it begins with, stands from one place up to another.
type span struct {
	symbol, from, to int
}

type answer struct {
	parts     []api.Expr
	is, known bool
}

// plain reads by the rules alone, trying all ways.
type plain struct {
	rules  [lines][]rule
	marks  []string // the symbols that are one token each
	tokens []api.Token
	whole  []answer
	begins []answer
}

func newPlain() *plain {
	p := &plain{}
	numbers := map[string]int{}
	for _, line := range strings.Split(strings.TrimSpace(grammar), "\n") {
		of := strings.Fields(line)[0]
		if _, is := numbers[of]; !is {
			numbers[of] = len(numbers)
		}
	}
	for _, line := range strings.Split(strings.TrimSpace(grammar), "\n") {
		f := strings.Fields(line)
		r := rule{op: f[1]}
		for _, s := range f[2:] {
			n, is := numbers[s]
			if !is {
				n = lines + len(p.marks)
				numbers[s] = n
				p.marks = append(p.marks, s)
			}
			r.by = append(r.by, n)
		}
		p.rules[numbers[f[0]]] = append(p.rules[numbers[f[0]]], r)
	}
	return p
}

// place is where the answer to a question is kept.
func (p *plain) place(s span) int {
	n := len(p.tokens) + 1
	return (s.symbol*n+s.from)*n + s.to
}

// one tells whether a token is what a symbol that has no rules stands for.
func (p *plain) one(symbol int, t api.Token) ([]api.Expr, bool) {
	switch s := p.marks[symbol-lines]; s {
	case "number":
		return []api.Expr{num(t.I)}, t.Kind == api.TInt && t.I >= 0
	case "anynumber":
		return []api.Expr{num(-t.I)}, t.Kind == api.TInt
	case "text":
		return []api.Expr{text(t.S)}, t.Kind == api.TText
	case "blob":
		return []api.Expr{blob(t.S)}, t.Kind == api.TBlob
	case "name":
		return []api.Expr{{Name: t.S}}, t.Kind == api.TWord && token.IsName(t.S)
	case "countname":
		return []api.Expr{{Name: t.S}}, t.Kind == api.TWord && t.S == "count"
	default:
		word := s != strings.ToLower(s)
		return nil, t.S == strings.ToLower(s) && (word && t.Kind == api.TWord || !word && t.Kind == api.TSign)
	}
}

// made is what a rule makes of its symbols' parts.
func made(o string, l []api.Expr) []api.Expr {
	switch {
	case o == "-":
		return l
	case o == "minus":
		o = "-"
	case o == "null":
		return []api.Expr{null()}
	case o == "true":
		return []api.Expr{yes()}
	case o == "false":
		return []api.Expr{no()}
	case o == "lit":
		return l
	case o == "col" && len(l) == 2:
		return []api.Expr{colOf(l[0].Name, l[1].Name)}
	case o == "col":
		return []api.Expr{col(l[0].Name)}
	case o == "call":
		return []api.Expr{call(l[0].Name, l[1:]...)}
	case strings.HasPrefix(o, "not-"):
		return []api.Expr{op("not", op(o[4:], l...))}
	}
	return []api.Expr{op(o, l...)}
}

// is tells whether the tokens from one place up to another are a symbol, and what it makes.
func (p *plain) is(s span) ([]api.Expr, bool) {
	if s.symbol >= lines {
		if s.to != s.from+1 {
			return nil, false
		}
		return p.one(s.symbol, p.tokens[s.from])
	}
	a := &p.whole[p.place(s)]
	if a.known {
		return a.parts, a.is
	}
	a.known = true
	for _, r := range p.rules[s.symbol] {
		if parts, is := p.row(r.by, s.from, s.to); is {
			a.parts, a.is = made(r.op, parts), true
			break
		}
	}
	return a.parts, a.is
}

// lastEnd tells up to where the first of some symbols may stand, if each has one token at the least.
func lastEnd(symbol, from, to int) int {
	if symbol >= lines {
		return min(from+1, to)
	}
	return to
}

// row tells whether the tokens are symbols behind one another.
func (p *plain) row(by []int, from, to int) ([]api.Expr, bool) {
	if len(by) == 1 {
		return p.is(span{by[0], from, to})
	}
	for middle := from + 1; middle <= lastEnd(by[0], from, to-len(by)+1); middle++ {
		behind, is := p.row(by[1:], middle, to)
		if !is {
			continue
		}
		if ahead, is := p.is(span{by[0], from, middle}); is {
			return append(append([]api.Expr{}, ahead...), behind...), true
		}
	}
	return nil, false
}

// may tells whether a symbol may begin with the tokens.
func (p *plain) may(s span) bool {
	if s.from == s.to {
		return true
	}
	if s.symbol >= lines {
		_, is := p.is(s)
		return is
	}
	a := &p.begins[p.place(s)]
	if !a.known {
		a.known = true
		for _, r := range p.rules[s.symbol] {
			a.is = a.is || p.rowMay(s.symbol, r.by, s.from, s.to)
		}
	}
	return a.is
}

// rowMay leaves out what is its own beginning: that begins as its other rules do.
func (p *plain) rowMay(of int, by []int, from, to int) bool {
	if by[0] != of && p.may(span{by[0], from, to}) {
		return true
	}
	for middle := from + 1; middle <= lastEnd(by[0], from, to) && len(by) > 1; middle++ {
		if !p.rowMay(-1, by[1:], middle, to) {
			continue
		}
		if _, is := p.is(span{by[0], from, middle}); is {
			return true
		}
	}
	return false
}

// at is what At answers: all that may begin an expression is taken.
func (p *plain) at(l []api.Token, i int) (api.Expr, int, api.Errno) {
	p.tokens = l
	room := lines * (len(l) + 1) * (len(l) + 1)
	p.whole, p.begins = make([]answer, room), make([]answer, room)
	to := i
	for to < len(l) && p.may(span{0, i, to + 1}) {
		to++
	}
	if to > i {
		if parts, is := p.is(span{0, i, to}); is {
			return parts[0], to, api.OK
		}
	}
	return api.Expr{}, to, api.ErrSyntax
}

// asksPlain asks At, at some places of a text, against the rules, and tells how many expressions it found.
func asksPlain(t *testing.T, p *plain, s string, places int) int {
	t.Helper()
	l := cut(t, s)
	found := 0
	for i := range min(len(l), places) {
		want, place, e := p.at(l, i)
		got, at, err := expr.At(l, i)
		if !same(got, want) || at != place || err != e {
			t.Fatalf("%s, %d: got %s, %d, %d, want %s, %d, %d", s, i, shown(got), at, err, shown(want), place, e)
		}
		if e == api.OK {
			found++
		}
	}
	return found
}

// somePieces are what expressions are written by, and what they may not have.
func somePieces() []string {
	return []string{"a", "count", "1", "9223372036854775808", "'or'", "x'28'", "null", "TRUE", "false", "or", "and", "not", "=", "<", "is", "like", "in", "between", "||", "+", "-", "*", "(", ")", ",", ".", "select", ";"}
}

// P7.2: all short lists of tokens, against the rules.
func TestAtAll(t *testing.T) {
	p := newPlain()
	pieces := somePieces()
	found := 0
	for _, a := range pieces {
		found += asksPlain(t, p, a, 2)
		for _, b := range pieces {
			for _, c := range pieces {
				found += asksPlain(t, p, a+" "+b+" "+c, 1)
				found += asksPlain(t, p, "a "+a+" "+b+" "+c, 1)
			}
			for _, ahead := range []string{"count ( ", "a in ( b ", "a between b ", "not a = ", "- ", "a || b "} {
				found += asksPlain(t, p, ahead+a+" "+b, 1)
			}
		}
	}
	if found < 10000 {
		t.Errorf("only %d expressions", found)
	}
}

// P7.2: longer lists, most of them an expression's with something else in the place of a token.
func TestAtMost(t *testing.T) {
	p := newPlain()
	r := rand.New(rand.NewSource(7))
	pieces := somePieces()
	found := 0
	spell := speller{r: r, blanks: []string{" "}}
	for _, e := range some(5, 1500, 4) {
		spell.b.Reset()
		spell.expr(e, 1)
		words := strings.Fields(spell.b.String())
		if len(words) > 20 {
			continue
		}
		for range 2 {
			changed := slices.Clone(words)
			for range r.Intn(3) {
				i := r.Intn(len(changed))
				switch r.Intn(3) {
				case 0:
					changed[i] = pieces[r.Intn(len(pieces))]
				case 1:
					changed[i] += " " + pieces[r.Intn(len(pieces))]
				default:
					changed[i] = ""
				}
			}
			found += asksPlain(t, p, strings.Join(changed, " "), 2)
		}
	}
	for range 3000 {
		var b strings.Builder
		for range r.Intn(9) {
			b.WriteString(pieces[r.Intn(len(pieces))] + " ")
		}
		found += asksPlain(t, p, b.String(), 2)
	}
	if found < 3000 {
		t.Errorf("only %d expressions", found)
	}
}
