package expr_test

import (
	"strings"
	"testing"

	"boscage/api"
	"boscage/expr"
)

// writes asks what Text answers.
func writes(t *testing.T, e api.Expr, want string) {
	t.Helper()
	if got, err := expr.Text(e); got != want || err != api.OK {
		t.Fatalf("%s: got %s, %d, want %s", shown(e), got, err, want)
	}
}

// P7.3: what has no parts.
func TestTextSingle(t *testing.T) {
	writes(t, null(), "NULL")
	writes(t, yes(), "TRUE")
	writes(t, no(), "FALSE")
	writes(t, num(0), "0")
	writes(t, num(-5), "-5")
	writes(t, num(-1<<63), "-9223372036854775808")
	writes(t, text("it's"), "'it''s'")
	writes(t, text("A\x00\xff\n"), "'A\x00\xff\n'")
	writes(t, blob("\x0f\xa0"), "x'0fa0'")
	writes(t, col("a"), "a")
	writes(t, colOf("t", "a"), "t.a")
	writes(t, call("f"), "f()")
	writes(t, call("count", star()), "count(*)")
}

// P7.3: each Op, with parts that stand alone.
func TestTextOps(t *testing.T) {
	a, b := col("a"), colOf("t", "b")
	writes(t, op("neg", a), "-(a)")
	writes(t, op("not", a), "NOT a")
	writes(t, op("isnull", a), "a IS NULL")
	writes(t, op("notnull", a), "a IS NOT NULL")
	for _, o := range twosOps() {
		writes(t, op(o, a, b), "a "+strings.ToUpper(o)+" t.b")
	}
	writes(t, op("like", a, text("x%")), "a LIKE 'x%'")
	writes(t, op("between", a, b, num(3)), "a BETWEEN t.b AND 3")
	writes(t, op("in", a, b), "a IN (t.b)")
	writes(t, op("in", a, b, num(3), null()), "a IN (t.b, 3, NULL)")
	writes(t, call("f", a), "f(a)")
	writes(t, call("f", a, b, num(3)), "f(a, t.b, 3)")
	writes(t, call("count", a), "count(a)")
}

// P7.3: which parts stand in brackets, and where none do.
func TestTextBrackets(t *testing.T) {
	with := func(e api.Expr, s string, alone bool) {
		t.Helper()
		part := "(" + s + ")"
		if alone {
			part = s
		}
		writes(t, e, s)
		writes(t, op("neg", e), "-("+s+")")
		writes(t, op("not", e), "NOT "+part)
		writes(t, op("isnull", e), part+" IS NULL")
		writes(t, op("notnull", e), part+" IS NOT NULL")
		for _, o := range twosOps() {
			writes(t, op(o, e, col("y")), part+" "+strings.ToUpper(o)+" y")
			writes(t, op(o, num(7), e), "7 "+strings.ToUpper(o)+" "+part)
			writes(t, op(o, e, e), part+" "+strings.ToUpper(o)+" "+part)
		}
		writes(t, op("between", e, num(1), e), part+" BETWEEN 1 AND "+part)
		writes(t, op("between", num(1), e, num(2)), "1 BETWEEN "+part+" AND 2")
		writes(t, op("in", e, e, num(1), e), part+" IN ("+s+", 1, "+s+")")
		writes(t, call("f", e), "f("+s+")")
		writes(t, call("count", num(1), e, e), "count(1, "+s+", "+s+")")
	}
	a := col("a")
	for s, e := range map[string]api.Expr{"NULL": null(), "TRUE": yes(), "FALSE": no(), "0": num(0), "5": num(5), "9223372036854775807": num(1<<63 - 1), "''": text(""), "'-5'": text("-5"), "x''": blob(""), "x'2d'": blob("-"), "a": a, "t.a": colOf("t", "a"), "f()": call("f"), "f(-5)": call("f", num(-5)), "count(*)": call("count", star())} {
		with(e, s, true)
	}
	for s, e := range map[string]api.Expr{"-5": num(-5), "-1": num(-1), "-9223372036854775808": num(-1 << 63), "-(a)": op("neg", a), "NOT a": op("not", a), "a IS NULL": op("isnull", a), "a IS NOT NULL": op("notnull", a), "a IN (1)": op("in", a, num(1)), "a BETWEEN 1 AND 2": op("between", a, num(1), num(2)), "NOT (NOT a)": op("not", op("not", a))} {
		with(e, s, false)
	}
	for _, o := range twosOps() {
		with(op(o, a, a), "a "+strings.ToUpper(o)+" a", false)
	}
	writes(t, op("or", op("<", op("+", a, op("*", num(1), col("b"))), num(3)), op("not", op("isnull", col("x")))), "((a + (1 * b)) < 3) OR (NOT (x IS NULL))")
	writes(t, op("not", op("in", op("-", a, num(-1)), op("or", a, a), op("neg", op("neg", a)))), "NOT ((a - (-1)) IN (a OR a, -(-(a))))")
}

// P7.3: Check's error, and no text.
func TestTextErrors(t *testing.T) {
	for _, e := range []api.Expr{{}, star(), op("and"), op("and", num(1)), col("select"), call("f", star()), lit(api.Value{Kind: 9}), op("not", op("at")), nested("not", 39, num(1)), nested("not", 40, num(1)), nested("not", 60000, num(1)), nested("not", 50, star()), op("=", num(1), op("in", num(1))), {Op: "neg", Name: "a", L: []api.Expr{num(1)}}} {
		s, err := expr.Text(e)
		if want := expr.Check(e); err != want || (err != api.OK) != (s == "") {
			t.Errorf("got %q, %d, want %d", s, err, want)
		}
	}
	if s, err := expr.Text(nested("neg", 39, num(1))); err != api.OK || s != strings.Repeat("-(", 39)+"1"+strings.Repeat(")", 39) {
		t.Errorf("got %q, %d", s, err)
	}
	long := text(strings.Repeat("'", 100000))
	writes(t, long, "'"+strings.Repeat("''", 100000)+"'")
}
