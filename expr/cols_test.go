package expr_test

import (
	"slices"
	"strconv"
	"testing"

	"boscage/api"
	"boscage/expr"
)

// finds asks what Cols answers.
func finds(t *testing.T, e api.Expr, want ...api.Expr) {
	t.Helper()
	if got := expr.Cols(e); !slices.EqualFunc(got, want, same) {
		t.Fatalf("%s: got %s, want %s", shown(e), shown(op("", got...)), shown(op("", want...)))
	}
}

// plainCols are an expression's columns, found one by one.
func plainCols(e api.Expr) []api.Expr {
	var l []api.Expr
	if e.Op == "col" {
		l = append(l, e)
	}
	for _, part := range e.L {
		for _, c := range plainCols(part) {
			if !slices.ContainsFunc(l, func(x api.Expr) bool { return same(x, c) }) {
				l = append(l, c)
			}
		}
	}
	return l
}

// P7.1: the columns, from the left, each once.
func TestCols(t *testing.T) {
	a, b, ta, tb := col("a"), col("b"), colOf("t", "a"), colOf("t", "b")
	finds(t, num(1))
	finds(t, call("f"))
	finds(t, call("count", star()))
	finds(t, call("a", text("b")))
	finds(t, a, a)
	finds(t, ta, ta)
	finds(t, op("+", b, a), b, a)
	finds(t, op("+", a, a), a)
	finds(t, op("+", a, ta), a, ta)
	finds(t, op("+", ta, colOf("u", "a")), ta, colOf("u", "a"))
	finds(t, op("-", op("*", b, op("neg", a)), op("/", a, tb)), b, a, tb)
	finds(t, op("in", num(1), a, b, a, tb, b, ta), a, b, tb, ta)
	finds(t, op("between", call("f", b, a), b, op("not", ta)), b, a, ta)
	finds(t, op("<", op("+", a, op("*", tb, a)), call("f", b, tb)), a, tb, b)
	for _, e := range append(some(4, 3000, 6), withParts(op("-", b, op("+", a, b)))...) {
		finds(t, e, plainCols(e)...)
	}
	var many, want []api.Expr
	for i := range 20000 {
		want = append(want, col("c"+strconv.Itoa(i)))
		many = append(many, want[i], want[i/2])
	}
	finds(t, call("f", many...), want...)
}

// P7.1: of any expressions; one that has parts stands ahead of those in these.
func TestColsOfAny(t *testing.T) {
	inner, leaf := col("i"), col("l")
	outer := api.Expr{Op: "col", Name: "o", L: []api.Expr{leaf, {Op: "x", L: []api.Expr{inner}}}}
	finds(t, outer, outer, leaf, inner)
	finds(t, op("?", leaf, outer), leaf, outer, inner)
	finds(t, op("?", outer, leaf, outer), outer, leaf, inner)
	finds(t, api.Expr{Op: "lit", L: []api.Expr{leaf}}, leaf)
	finds(t, api.Expr{Op: "star", L: []api.Expr{leaf}}, leaf)
	finds(t, api.Expr{})
	finds(t, api.Expr{Op: "col"}, api.Expr{Op: "col"})
	finds(t, op("COL", col("A")), col("A"))
	apart := []api.Expr{
		{Op: "col"}, {Op: "col", Name: "a"}, {Op: "col", Table: "a"}, {Op: "col", Table: "a", Name: "a"}, {Op: "col", Name: "aa"}, {Op: "col", Name: "1 a"}, {Op: "col", Name: "a 1"},
		{Op: "col", V: api.Value{S: "a"}}, {Op: "col", V: api.Value{Kind: 1}}, {Op: "col", V: api.Value{I: 1}}, {Op: "col", V: api.Value{Kind: 1, I: 1}}, {Op: "col", V: api.Value{I: 11}}, {Op: "col", V: api.Value{Kind: 11}}, {Op: "col", V: api.Value{I: -1}},
		{Op: "col", L: []api.Expr{{}}}, {Op: "col", L: []api.Expr{{}, {}}}, {Op: "col", L: []api.Expr{{L: []api.Expr{{}}}}}, {Op: "col", L: []api.Expr{{Op: "x"}}}, {Op: "col", L: []api.Expr{{Name: "x"}}}, {Op: "col", L: []api.Expr{{Table: "x"}}}, {Op: "col", L: []api.Expr{{V: api.Value{Kind: 3, S: "x"}}}}, {Op: "col", L: []api.Expr{{L: []api.Expr{{}}}, {}}}, {Op: "col", L: []api.Expr{{}, {L: []api.Expr{{}}}}}, {Op: "col", L: []api.Expr{{L: []api.Expr{{}, {}}}}},
	}
	finds(t, op("?", append(copied(op("", apart...)).L, apart...)...), apart...)
	finds(t, nested("?", 60000, op("+", leaf, leaf)), leaf)
	deep := leaf
	for range 300 {
		deep = api.Expr{Op: "col", Name: "n", L: []api.Expr{deep, deep}[:1]}
	}
	if got := expr.Cols(op("?", deep, copied(deep))); len(got) != 301 || !same(got[0], deep) || !same(got[300], leaf) {
		t.Errorf("got %d", len(got))
	}
}

// R2: what Cols answers is the caller's own.
func TestColsAreNew(t *testing.T) {
	inner := api.Expr{Op: "col", Name: "i", L: []api.Expr{col("j")}}
	e := op("?", api.Expr{Op: "col", Name: "o", L: []api.Expr{inner}}, inner, col("a"))
	kept := copied(e)
	first := expr.Cols(e)
	want := copied(op("", first...))
	second := expr.Cols(e)
	spoil(op("", second...))
	if !same(e, kept) || !same(op("", first...), want) {
		t.Errorf("got %s and %s", shown(e), shown(op("", first...)))
	}
	for i := range first {
		spoil(first[i])
		for j := i + 1; j < len(first); j++ {
			if !same(first[j], want.L[j]) {
				t.Errorf("%d and %d share", i, j)
			}
		}
	}
	third := expr.Cols(e)
	spoil(e)
	if !same(op("", third...), want) {
		t.Errorf("got %s", shown(op("", third...)))
	}
}
