package bind_test

import (
	"testing"

	"boscage/api"
	"boscage/bind"
	"boscage/eval"
)

// rowed asks what Row answers, twice; that it changes nothing that it is handed, and shares nothing with it.
func rowed(t *testing.T, e api.Expr, c api.Cols, want api.Expr, err api.Errno) {
	t.Helper()
	e, c = copied(e), copied(c)
	before := shownWhole(e) + shownWhole(c)
	got, g := bind.Row(e, c)
	again, _ := bind.Row(e, c)
	if shown(got) != shown(want) || g != err || shown(again) != shown(got) {
		t.Fatalf("%s: got %s and %s, %d, want %s, %d", before, shown(got), shown(again), g, shown(want), err)
	}
	if shownWhole(e)+shownWhole(c) != before {
		t.Fatalf("%s: was changed", before)
	}
	handed := [][2]uintptr{}
	for _, x := range []any{e, c, again} {
		handed = append(handed, memory(x)...)
	}
	apart(t, memory(got), handed)
}

// P12.2: an expression bound in a table's columns, of the table's name.
func TestRow(t *testing.T) {
	c := cols("t", "a", "b", "count", "t")
	for s, want := range map[string]string{
		"a": "p0", "t.b": "p1", "t.t": "p3", "t": "p3", "count": "p2", "a + t.b * 2": "p0 + (p1 * 2)", "1": "1", "null": "NULL", "f()": "f()",
		"coalesce(t.a, b, 'x') is null": "coalesce(p0, p1, 'x') IS NULL", "not (a in (b, 1, t.a))": "NOT (p0 IN (p1, 1, p0))", "a between b and count": "p0 BETWEEN p1 AND p2",
		"- 5 < -a and b like '%' or true": "(((-5) < (-(p0))) AND (p1 LIKE '%')) OR TRUE", "counts(a)": "counts(p0)",
	} {
		e, err := bind.Row(ex(s), c)
		if bound(e) != want || err != api.OK || eval.Check(e, 4) != api.OK {
			t.Errorf("%q: got %s, %d, want %s", s, bound(e), err, want)
		}
		rowed(t, ex(s), c, e, api.OK)
	}
	for _, s := range []string{"n", "x.a", "t.n", "a.t", "a + n", "n + a", "f(a, x.b)", "n + count(*)", "f(t.n, max(a))", "a in (b, 1, n)"} {
		rowed(t, ex(s), c, api.Expr{}, api.ErrName)
	}
	for _, s := range []string{"count(*)", "count(a)", "sum(a)", "min(a)", "max(a)", "count()", "sum(a, b)", "sum(n)", "max(min(a))", "a + count(*)", "count(*) + n", "f(a, f(max(b)), n)", "not (sum(x.a) = 1)"} {
		rowed(t, ex(s), c, api.Expr{}, api.ErrUse)
	}
	for _, e := range []api.Expr{star(), op("neg", star()), call("f", col("a"), star())} {
		rowed(t, e, c, api.Expr{}, api.ErrUse)
	}
}

// P12.2: of tables with columns of the same name, with none, with many, with no name.
func TestRowTables(t *testing.T) {
	rowed(t, col("a"), cols("d", "a", "b", "a"), api.Expr{}, api.ErrName)
	rowed(t, colOf("d", "a"), cols("d", "a", "b", "a"), api.Expr{}, api.ErrName)
	rowed(t, col("b"), cols("d", "a", "b", "a"), at(1), api.OK)
	rowed(t, col("a"), api.Cols{}, api.Expr{}, api.ErrName)
	rowed(t, lit(num(3)), api.Cols{}, lit(num(3)), api.OK)
	rowed(t, col("a"), cols("", "a"), at(0), api.OK)
	rowed(t, colOf("t", "a"), cols("", "a"), api.Expr{}, api.ErrName)
	rowed(t, op("+", col("k99"), colOf("w", "k64")), wide("w", 100), op("+", at(99), at(64)), api.OK)
}

// P12.2: how deep an expression is Row does not ask.
func TestRowDeep(t *testing.T) {
	for _, deep := range []int{39, 40, 41, 1 << 16} {
		e := nested("neg", deep, col("b"))
		got, err := bind.Row(e, cols("t", "a", "b"))
		if err != api.OK || len(eval.Uses(got)) != 1 || eval.Uses(got)[0] != 1 {
			t.Errorf("%d deep: got %d", deep, err)
		}
		if _, err := bind.Row(e, cols("t", "a")); err != api.ErrName {
			t.Errorf("%d deep: got %d", deep, err)
		}
	}
}

// P12.2: what has no columns is reckoned of no row.
func TestConst(t *testing.T) {
	for s, want := range map[string]api.Value{
		"1": num(1), "- 9223372036854775808": num(least), "1 + 2 * 3": num(7), "null": null(), "'it''s'": text("it's"), "x'00ff'": blob("\x00\xff"), "true and 1 = 1": yes(),
		"upper('a') || 'b'": text("Ab"), "null + 1": null(), "length('abc') in (1, 3)": yes(), "coalesce(null, 2)": num(2), "'abc' like 'a%'": yes(), "- (5)": num(-5),
	} {
		consts(t, ex(s), want, api.OK)
	}
	for s, want := range map[string]api.Errno{
		"a": api.ErrName, "t.a": api.ErrName, "1 + a": api.ErrName, "1 / 0 + a": api.ErrName, "a + count(*)": api.ErrName, "count": api.ErrName,
		"count(*)": api.ErrUse, "sum(1)": api.ErrUse, "max(a)": api.ErrUse, "1 / 0 + min(1)": api.ErrUse, "count(*) + a": api.ErrUse,
		"1 / 0": api.ErrZero, "- (- 9223372036854775808)": api.ErrOver, "1 + 'a'": api.ErrType, "'a' like '\\'": api.ErrLike, "none()": api.ErrArg, "abs(1, 2)": api.ErrArg, "1 / 0 = null": api.ErrZero, "not 1": api.ErrType,
	} {
		consts(t, ex(s), null(), want)
	}
	consts(t, star(), null(), api.ErrUse)
	consts(t, col(""), null(), api.ErrName)
	consts(t, nested("neg", 100, lit(num(3))), num(3), api.OK)
}

func consts(t *testing.T, e api.Expr, want api.Value, err api.Errno) {
	t.Helper()
	before := shown(e)
	for range 2 {
		if got, g := bind.Const(e); got != want || g != err || shown(e) != before {
			t.Fatalf("%s: got %v, %d, want %v, %d", before, got, g, want, err)
		}
	}
}

// P12.2: at random, against the plain way; Const is a Row of no columns, reckoned.
func TestRowAny(t *testing.T) {
	m := newMaker(5)
	count := map[api.Errno]int{}
	for range 20000 {
		c := pick(m, tables()...)
		l := []api.Expr{col("a"), colOf(c.Table, "b"), col("b"), colOf("t", "a")}
		for _, d := range c.L {
			l = append(l, col(d.Name), colOf(c.Table, d.Name))
		}
		e := m.expr(4, l, 40)
		var s names
		for _, d := range c.L {
			s = append(s, [2]string{c.Table, d.Name})
		}
		want, err := caught(func() api.Expr { return s.bind(e) })
		rowed(t, e, c, want, err)
		count[err]++
		value, err := api.Value{}, api.OK
		if want, err = caught(func() api.Expr { return names{}.bind(e) }); err == api.OK {
			value, err = eval.Eval(want, nil)
		}
		consts(t, e, value, err)
		count[err]++
	}
	for _, err := range []api.Errno{api.OK, api.ErrName, api.ErrUse, api.ErrType} {
		if count[err] < 50 {
			t.Errorf("%d: only %d", err, count[err])
		}
	}
}

// caught is what a plain way tells, or the error that it throws.
func caught(tell func() api.Expr) (e api.Expr, err api.Errno) {
	defer func() {
		if x := recover(); x != nil {
			e, err = api.Expr{}, x.(thrown).err
		}
	}()
	return tell(), api.OK
}
