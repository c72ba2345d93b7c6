package expr

import (
	"slices"

	"boscage/api"
	"boscage/token"
)

// The grammar's lines that have words or signs behind a part, or NOT ahead of one, from the weakest binding to the strongest.
const (
	lineOr = 1 + iota
	lineAnd
	lineNot
	lineCompared
	lineJoined
	lineSum
	lineProduct
)

// lineOf tells of which line a token is that stands behind a part; 0, if it is of none.
func lineOf(t api.Token) int {
	switch t.Kind {
	case api.TWord:
		switch t.S {
		case "or":
			return lineOr
		case "and":
			return lineAnd
		case "is", "not", "like", "in", "between":
			return lineCompared
		}
	case api.TSign:
		switch t.S {
		case "=", "<>", "<", "<=", ">", ">=":
			return lineCompared
		case "||":
			return lineJoined
		case "+", "-":
			return lineSum
		case "*", "/", "%":
			return lineProduct
		}
	}
	return 0
}

// line reads the longest expression of line n, or of one that binds more strongly.
func (r *reader) line(n int) api.Expr {
	e, most := r.begun(n)
	for {
		op := r.tokens[r.at]
		of := lineOf(op)
		if of < n || of > most {
			return e
		}
		r.at++
		if of == lineCompared {
			e, most = r.compared(e, op.S), of-1 // one of these at the most
		} else {
			e, most = r.made(op.S, e, r.line(of+1)), of
		}
	}
}

// begun reads what an expression of line n begins with, and tells the strongest line of what may stand behind it.
func (r *reader) begun(n int) (api.Expr, int) {
	if n <= lineNot && r.takes(api.TWord, "not") {
		return r.made("not", r.line(lineNot)), lineNot
	}
	return r.signed(), lineProduct
}

// compared reads on behind a and a sign or a word of its line.
func (r *reader) compared(a api.Expr, op string) api.Expr {
	switch op {
	case "is":
		return r.is(a)
	case "not":
		return r.made("not", r.asked(a, r.want(api.TWord, "like", "in", "between")))
	}
	return r.asked(a, op)
}

func (r *reader) is(a api.Expr) api.Expr {
	if r.want(api.TWord, "null", "not") == "null" {
		return r.made("isnull", a)
	}
	r.want(api.TWord, "null")
	return r.made("notnull", a)
}

// asked reads on behind a and what asks about it: a sign, or one of the words that may have a NOT ahead.
func (r *reader) asked(a api.Expr, op string) api.Expr {
	switch op {
	case "in":
		r.want(api.TSign, "(")
		return r.made(op, slices.Insert(r.list(), 0, a)...)
	case "between":
		b := r.line(lineJoined)
		r.want(api.TWord, "and")
		return r.made(op, a, b, r.line(lineJoined))
	}
	return r.made(op, a, r.line(lineJoined))
}

// list reads expressions up to the bracket behind them.
func (r *reader) list() []api.Expr {
	l := []api.Expr{r.line(lineOr)}
	for r.want(api.TSign, ",", ")") == "," {
		l = append(l, r.line(lineOr))
	}
	return l
}

func (r *reader) signed() api.Expr {
	if !r.takes(api.TSign, "-") {
		return r.single()
	}
	if t := r.tokens[r.at]; t.Kind == api.TInt {
		r.at++
		return lit(api.Value{Kind: api.Int, I: -t.I}) // 2^63 has the I -2^63, which is its own negative
	}
	return r.made("neg", r.signed())
}

func (r *reader) single() api.Expr {
	if r.takes(api.TSign, "(") {
		e := r.line(lineOr)
		r.want(api.TSign, ")")
		return e
	}
	if v, is := constant(r.tokens[r.at]); is {
		r.at++
		return lit(v)
	}
	return r.named()
}

// named reads what begins with a name: a column, or a call.
func (r *reader) named() api.Expr {
	first := r.name()
	switch {
	case r.takes(api.TSign, "."):
		return api.Expr{Op: "col", Table: first, Name: r.name()}
	case r.takes(api.TSign, "("):
		return r.kept(api.Expr{Op: "call", Name: first, L: r.arguments(first)})
	}
	return api.Expr{Op: "col", Name: first}
}

func (r *reader) name() string {
	t := r.tokens[r.at]
	if t.Kind != api.TWord || !token.IsName(t.S) {
		panic(misplaced(r.at))
	}
	r.at++
	return t.S
}

// arguments reads on behind a call's first bracket.
func (r *reader) arguments(name string) []api.Expr {
	switch {
	case r.takes(api.TSign, ")"):
		return nil
	case name == "count" && r.takes(api.TSign, "*"):
		r.want(api.TSign, ")")
		return []api.Expr{{Op: "star"}}
	}
	return r.list()
}

func lit(v api.Value) api.Expr { return api.Expr{Op: "lit", V: v} }

// constant is what a token stands for by itself, if it does.
func constant(t api.Token) (api.Value, bool) {
	switch t.Kind {
	case api.TInt:
		return api.Value{Kind: api.Int, I: t.I}, t.I >= 0
	case api.TText:
		return api.Value{Kind: api.Text, S: t.S}, true
	case api.TBlob:
		return api.Value{Kind: api.Blob, S: t.S}, true
	case api.TWord:
		return constantWord(t.S)
	}
	return api.Value{}, false
}

func constantWord(s string) (api.Value, bool) {
	switch s {
	case "null":
		return api.Value{}, true
	case "false":
		return api.Value{Kind: api.Bool}, true
	case "true":
		return api.Value{Kind: api.Bool, I: 1}, true
	}
	return api.Value{}, false
}
