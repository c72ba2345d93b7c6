package eval_test

import (
	"fmt"
	"math/rand"
	"strconv"
	"testing"

	"boscage/api"
	"boscage/eval"
	"boscage/expr"
)

// folds asks what Fold answers, and that it changes nothing.
func folds(t *testing.T, e, want api.Expr) {
	t.Helper()
	before := copied(e)
	if got := eval.Fold(e); !same(got, want) {
		t.Fatalf("%s: got %s, want %s", shown(e), shown(got), shown(want))
	}
	if !same(e, before) {
		t.Fatalf("%s was changed", shown(before))
	}
}

// P10.3: expressions as they are written.
func TestFoldParsed(t *testing.T) {
	for s, want := range map[string]string{
		"1": "1", "NULL": "NULL", "'x'": "'x'", "a": "a", "1 + 2": "3", "1 + 2 * 3 - 4": "3", "a + 2 * 3": "a + 6", "2 * 3 + a": "6 + a", "a + 2 + 3": "a + 2 + 3", "2 + 3 + a": "5 + a", "a * 0": "a * 0",
		"1 / 0": "1 / 0", "1 / 0 + 2 * 3": "1 / 0 + 6", "(1 + 1) / (2 - 2)": "2 / 0", "1 / 0 = NULL": "1 / 0 = NULL", "coalesce(1, 1 / 0)": "coalesce(1, 1 / 0)", "coalesce(1 + 1, 1 / (1 - 1))": "coalesce(2, 1 / 0)",
		"a = 1 and 1 = 1": "a = 1 and TRUE", "a = 1 and 1 = 2": "a = 1 and FALSE", "1 = 2 and 2 = 3": "FALSE", "a is null or 1 < 2": "a is null or TRUE", "a in (1 + 1, b, 3 * 3)": "a in (2, b, 9)", "1 in (1, a)": "1 in (1, a)", "1 + 1 in (2, 3)": "TRUE",
		"a between 1 + 1 and 1 + 2": "a between 2 and 3", "2 between 1 and 3": "TRUE", "NULL is null": "TRUE", "not 1 = 1": "FALSE", "a like 'x' || '%'": "a like 'x%'", "'xy' like 'x' || '%'": "TRUE", "'x' like '\\'": "'x' like '\\'", "NULL + 1": "NULL",
		"upper('a') || b": "'A' || b", "none(1 + 1)": "none(2)", "none(1)": "none(1)", "coalesce()": "coalesce()", "f(g(1 + 1), a)": "f(g(2), a)", "length('abc') + abs(-3)": "6", "x'00' || x'01'": "x'0001'", "x'00' || 'a'": "x'00' || 'a'", "-(5)": "-5", "-(a + -(5))": "-(a + -5)",
		"9223372036854775807 + 1": "9223372036854775807 + 1", "-9223372036854775807 - 1": "-9223372036854775808", "coalesce(NULL, 3) < b": "3 < b", "not a": "not a", "1 and 2": "1 and 2", "a + (1 + (b + (2 + 3)))": "a + (1 + (b + 5))",
	} {
		e, _, err := expr.Parse(s)
		w, _, other := expr.Parse(want)
		if err != api.OK || other != api.OK {
			t.Fatalf("%q: %d, %d", s, err, other)
		}
		folds(t, bound(e), bound(w))
		folds(t, bound(w), bound(w))
	}
}

// closed tells whether an expression hangs on no row.
func closed(e api.Expr) bool {
	for _, part := range e.L {
		if !closed(part) {
			return false
		}
	}
	return e.Op != "at"
}

// fold goes from the greatest parts to the lesser ones.
func fold(e api.Expr) api.Expr {
	if closed(e) {
		if v, err := eval.Eval(e, nil); err == api.OK {
			return lit(v)
		}
	}
	e = copied(e)
	for i := range e.L {
		e.L[i] = fold(e.L[i])
	}
	return e
}

// P10.3: at random; P10.5: no value and no error is another one then.
func TestFoldAny(t *testing.T) {
	m := newMaker(5)
	shorter, failing := 0, 0
	for _, e := range m.anyOf(30000, 7) {
		want := fold(e)
		folds(t, e, want)
		folds(t, want, want)
		if !same(e, want) {
			shorter++
		}
		for range 3 {
			r := m.row()
			v, err := eval.Eval(e, r)
			evals(t, want, r, v, err)
			if err != api.OK {
				failing++
			}
		}
		if eval.Check(want, 6) != api.OK || expr.Deep(want) > expr.Deep(e) {
			t.Fatalf("%s", shown(want))
		}
	}
	if shorter < 5000 || failing < 10000 {
		t.Errorf("only %d and %d", shorter, failing)
	}
}

// P10.3: each Op whose parts are closed.
func TestFoldOps(t *testing.T) {
	for _, a := range some() {
		folds(t, lit(a), lit(a))
		for _, b := range some() {
			for _, o := range twosOps() {
				e := op(o, lit(a), lit(b))
				want := e
				if v, err := eval.Eval(e, nil); err == api.OK {
					want = lit(v)
				}
				folds(t, e, want)
				folds(t, op("in", at(0), e, e), op("in", at(0), want, want))
				folds(t, call("f", e, at(1), e), call("f", want, at(1), want))
			}
		}
	}
}

// P10.3: e itself, if it is not bound, though some of its parts are.
func TestFoldUnbound(t *testing.T) {
	sum := op("+", lit(num(1)), lit(num(2)))
	for _, bad := range []api.Expr{{}, {Op: "col", Name: "a"}, {Op: "star"}, {Op: "x"}, call("count", api.Expr{Op: "star"}), call("sum", sum), call("min", lit(num(1))), at(-1), at(most), {Op: "at"}, {Op: "at", V: num(0), L: []api.Expr{sum}}, {Op: "at", V: num(0), Name: "a"}, lit(api.Value{Kind: 9}), {Op: "lit", V: num(1), L: []api.Expr{sum}}, op("not"), op("+", sum), op("isnull", sum, sum), {Op: "neg", Name: "a", L: []api.Expr{sum}}, {Op: "call", Table: "t", Name: "abs", L: []api.Expr{sum}}} {
		folds(t, bad, bad)
		for _, e := range withPart(bad) {
			folds(t, e, e)
			folds(t, op("and", sum, e), op("and", sum, e))
			folds(t, op("and", e, sum), op("and", e, sum))
		}
	}
	three := lit(num(3))
	folds(t, op("+", at(most-1), sum), op("+", at(most-1), three))
	folds(t, op("+", at(most), sum), op("+", at(most), sum))
	r := rand.New(rand.NewSource(6))
	for range 50000 {
		e := anything(r, 1+r.Intn(4))
		want := e
		if eval.Check(e, most) == api.OK {
			want = fold(e)
		}
		folds(t, e, want)
	}
}

// P10.3: e itself, if it is too deep.
func TestFoldDeep(t *testing.T) {
	folds(t, nested("neg", 38, lit(num(5))), lit(num(5)))
	folds(t, nested("neg", 39, lit(num(5))), lit(num(-5)))
	for _, many := range []int{40, 41, 60000} {
		e := nested("neg", many, lit(num(5)))
		folds(t, e, e)
		e = op("+", op("+", lit(num(1)), lit(num(1))), nested("neg", many, at(0)))
		folds(t, e, e)
	}
	sum := op("+", lit(num(1)), lit(num(1)))
	folds(t, nested("neg", 38, op("+", at(0), lit(num(1)))), nested("neg", 38, op("+", at(0), lit(num(1)))))
	folds(t, nested("neg", 37, op("+", at(0), sum)), nested("neg", 37, op("+", at(0), lit(num(2)))))
	folds(t, nested("neg", 38, op("+", at(0), sum)), nested("neg", 38, op("+", at(0), sum)))
	folds(t, nested("neg", 38, fails()), nested("neg", 38, fails()))
	var parts, want []api.Expr
	for i := range int64(20000) {
		parts = append(parts, op("||", lit(text(strconv.FormatInt(i, 10))), lit(text("x"))), at(i))
		want = append(want, lit(text(fmt.Sprint(i, "x"))), at(i))
	}
	folds(t, call("f", parts...), call("f", want...))
	folds(t, op("in", parts...), op("in", want...))
}

// R2: what Fold answers is the caller's own.
func TestFoldIsNew(t *testing.T) {
	shared := op("+", at(0), op("*", lit(num(2)), lit(num(3))))
	for _, e := range []api.Expr{op("=", shared, shared), op("=", shared, api.Expr{Op: "col", Name: "a", L: []api.Expr{shared}}), nested("neg", 50, shared), op("not", fails())} {
		before := copied(e)
		first := eval.Fold(e)
		want := copied(first)
		spoil(eval.Fold(e))
		if !same(e, before) || !same(first, want) {
			t.Errorf("got %s and %s", shown(e), shown(first))
		}
		if len(first.L) > 1 {
			spoil(first.L[0])
			if !same(first.L[1], want.L[1]) {
				t.Errorf("%s: its parts share", shown(want))
			}
			first = eval.Fold(e)
		}
		kept := copied(e)
		spoil(e)
		if !same(first, want) {
			t.Errorf("got %s", shown(first))
		}
		spoil(kept)
	}
}
