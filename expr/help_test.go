package expr_test

import (
	"math/rand"
	"slices"
	"strconv"
	"strings"
	"testing"

	"boscage/api"
	"boscage/expr"
	"boscage/token"
)

// The expressions that tests are made of.
func lit(v api.Value) api.Expr              { return api.Expr{Op: "lit", V: v} }
func num(i int64) api.Expr                  { return lit(api.Value{Kind: api.Int, I: i}) }
func text(s string) api.Expr                { return lit(api.Value{Kind: api.Text, S: s}) }
func blob(s string) api.Expr                { return lit(api.Value{Kind: api.Blob, S: s}) }
func null() api.Expr                        { return lit(api.Value{}) }
func no() api.Expr                          { return lit(api.Value{Kind: api.Bool}) }
func yes() api.Expr                         { return lit(api.Value{Kind: api.Bool, I: 1}) }
func col(name string) api.Expr              { return api.Expr{Op: "col", Name: name} }
func colOf(table, name string) api.Expr     { return api.Expr{Op: "col", Table: table, Name: name} }
func op(o string, l ...api.Expr) api.Expr   { return api.Expr{Op: o, L: l} }
func call(n string, l ...api.Expr) api.Expr { return api.Expr{Op: "call", Name: n, L: l} }
func star() api.Expr                        { return api.Expr{Op: "star"} }

// The Ops that have parts alone, by how many.
func onesOps() []string { return []string{"neg", "not", "isnull", "notnull"} }
func twosOps() []string {
	return []string{"and", "or", "=", "<>", "<", "<=", ">", ">=", "+", "-", "*", "/", "%", "||", "like"}
}

// withParts are Ops, each with as many parts as it may have, and a call.
func withParts(part api.Expr) []api.Expr {
	var l []api.Expr
	for _, o := range onesOps() {
		l = append(l, op(o, part))
	}
	for _, o := range twosOps() {
		l = append(l, op(o, part, col("y")), op(o, num(7), part))
	}
	l = append(l, op("between", part, num(1), col("z")), op("between", num(1), part, col("z")), op("between", num(1), col("z"), part))
	l = append(l, op("in", part, num(1)), op("in", num(1), part), op("in", num(1), num(2), part, num(3)))
	return append(l, call("f", part), call("count", part), call("f", num(1), part))
}

// nested has a part in so many of one Op.
func nested(o string, many int, part api.Expr) api.Expr {
	for range many {
		part = op(o, part)
	}
	return part
}

// same asks whether two are the same, without the program.
func same(a, b api.Expr) bool {
	return a.Op == b.Op && a.V == b.V && a.Table == b.Table && a.Name == b.Name && slices.EqualFunc(a.L, b.L, same)
}

// copied is an expression in memory of its own.
func copied(e api.Expr) api.Expr {
	e.L = slices.Clone(e.L)
	for i := range e.L {
		e.L[i] = copied(e.L[i])
	}
	return e
}

// spoil writes over all parts of an expression.
func spoil(e api.Expr) {
	for i := range e.L {
		spoil(e.L[i])
		e.L[i] = api.Expr{Op: "spoilt"}
	}
}

// shown is an expression, all parts of it, as a test tells it.
func shown(e api.Expr) string {
	var b strings.Builder
	b.WriteString(e.Op)
	if e.V != (api.Value{}) || e.Op == "lit" {
		b.WriteString("{" + strconv.Itoa(e.V.Kind) + " " + strconv.FormatInt(e.V.I, 10) + " " + strconv.Quote(e.V.S) + "}")
	}
	if e.Table != "" || e.Name != "" {
		b.WriteString("[" + e.Table + "." + e.Name + "]")
	}
	if len(e.L) > 0 {
		b.WriteString("(")
		for i, part := range e.L {
			if i > 0 {
				b.WriteString(", ")
			}
			b.WriteString(shown(part))
		}
		b.WriteString(")")
	}
	return b.String()
}

// parses asks whether a text is this expression. Of so many that are asked, one that fails is enough.
func parses(t *testing.T, s string, want api.Expr) {
	t.Helper()
	if e, place, err := expr.Parse(s); !same(e, want) || place != 0 || err != api.OK {
		t.Fatalf("%q: got %s, %d, %d, want %s", s, shown(e), place, err, shown(want))
	}
}

// refuses asks whether a text is none, and where.
func refuses(t *testing.T, s string, place int, want api.Errno) {
	t.Helper()
	if e, at, err := expr.Parse(s); !same(e, api.Expr{}) || at != place || err != want {
		t.Fatalf("%.200q: got %s, %d, %d, want %d at %d", s, shown(e), at, err, want, place)
	}
}

// cut are a text's tokens.
func cut(t *testing.T, s string) []api.Token {
	t.Helper()
	l, place, e := token.Cut(s)
	if e != api.OK {
		t.Fatalf("%q: no token at %d", s, place)
	}
	return l
}

// some are expressions that may be, at random, but the same ones each time.
func some(seed int64, many, depth int) []api.Expr {
	r := rand.New(rand.NewSource(seed))
	var l []api.Expr
	for range many {
		l = append(l, one(r, 1+r.Intn(depth)))
	}
	return l
}

func one(r *rand.Rand, depth int) api.Expr {
	if depth <= 1 {
		leaves := []api.Expr{num(0), num(12), num(-5), num(1<<63 - 1), num(-1 << 63), text(""), text("it's"), text("or"), text("("), blob(""), blob("\x00'\xff"), null(), no(), yes(), col("a"), col("b"), col("count"), colOf("t", "a"), colOf("count", "count"), call("f")}
		return leaves[r.Intn(len(leaves))]
	}
	part := func() api.Expr { return one(r, depth-1-r.Intn(2)) }
	switch r.Intn(8) {
	case 0:
		l := []api.Expr{part(), part()}
		for range r.Intn(3) {
			l = append(l, part())
		}
		return op("in", l...)
	case 1:
		return op("between", part(), part(), part())
	case 2:
		return call([]string{"f", "count", "sum"}[r.Intn(3)], []api.Expr{part(), part(), part()}[:1+r.Intn(3)]...)
	case 3:
		if depth == 2 {
			return call("count", star())
		}
		fallthrough
	case 4:
		return op(onesOps()[r.Intn(4)], part())
	}
	return op(twosOps()[r.Intn(15)], part(), part())
}
