package stmt

import (
	"boscage/api"
	"boscage/expr"
	"boscage/token"
)

// reader reads tokens, one behind the other. At the first fault it stays where that is: whatever is asked of it from then on, nothing is there.
type reader struct {
	tokens []api.Token
	at     int
	err    api.Errno
}

// stands tells whether a token is that word or sign.
func stands(t api.Token, mark string) bool {
	return (t.Kind == api.TWord || t.Kind == api.TSign) && t.S == mark
}

// next is the token that comes; behind a fault it is none of any kind.
func (r *reader) next() api.Token {
	if r.err != api.OK {
		return api.Token{}
	}
	return r.tokens[r.at]
}

// fails tells of a fault at the token that comes, if it is the first one.
func (r *reader) fails(err api.Errno) {
	if r.err == api.OK {
		r.err = err
	}
}

// takes steps over a word or a sign, if it is there; then those that belong to it must be there as well.
func (r *reader) takes(mark string, others ...string) bool {
	if !stands(r.next(), mark) {
		return false
	}
	r.at++
	for _, other := range others {
		r.want(other)
	}
	return true
}

// want steps over a word or a sign that must be there.
func (r *reader) want(mark string) {
	if !r.takes(mark) {
		r.fails(api.ErrSyntax)
	}
}

// takesName steps over a name, if it is there; else it tells an empty one.
func (r *reader) takesName() string {
	t := r.next()
	if t.Kind != api.TWord || !token.IsName(t.S) {
		return ""
	}
	r.at++
	return t.S
}

func (r *reader) name() string {
	name := r.takesName()
	if name == "" {
		r.fails(api.ErrSyntax)
	}
	return name
}

// as reads `[AS] name`, if it is there.
func (r *reader) as() string {
	if r.takes("as") {
		return r.name()
	}
	return r.takesName()
}

func (r *reader) number() int64 {
	t := r.next()
	if t.Kind != api.TInt || t.I < 0 { // 2^63 has an I below 0
		r.fails(api.ErrSyntax)
		return 0
	}
	r.at++
	return t.I
}

func (r *reader) expr() api.Expr {
	if r.err != api.OK {
		return api.Expr{}
	}
	var e api.Expr
	e, r.at, r.err = expr.At(r.tokens, r.at)
	return e
}

// clause reads an expression behind its word, if that is there.
func (r *reader) clause(word string) api.Expr {
	if !r.takes(word) {
		return api.Expr{}
	}
	return r.expr()
}

// listOf reads one, and more of the same with `,` between.
func listOf[T any](r *reader, one func() T) []T {
	l := []T{one()}
	for r.takes(",") {
		l = append(l, one())
	}
	return l
}

func bracketed[T any](r *reader, one func() T) []T {
	r.want("(")
	l := listOf(r, one)
	r.want(")")
	return l
}
