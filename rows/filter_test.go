package rows_test

import (
	"slices"
	"testing"

	"boscage/api"
	"boscage/rows"
)

func truths(t *testing.T, e api.Expr, r api.Row, want bool, err api.Errno) {
	t.Helper()
	before := slices.Clone(r)
	if got, g := rows.Truth(e, r); got != want || g != err {
		t.Fatalf("%v of %v: got %t, %d, want %t, %d", e, r, got, g, want, err)
	}
	if !slices.Equal(r, before) {
		t.Fatalf("%v was changed", before)
	}
}

func filters(t *testing.T, l []api.Row, e api.Expr, want []api.Row, err api.Errno) {
	t.Helper()
	asks(t, want, err, func(l ...[]api.Row) ([]api.Row, api.Errno) { return rows.Filter(l[0], e) }, l)
}

func projects(t *testing.T, l []api.Row, es []api.Expr, want []api.Row, err api.Errno) {
	t.Helper()
	asks(t, want, err, func(l ...[]api.Row) ([]api.Row, api.Errno) { return rows.Project(l[0], es) }, l)
}

// P11.1: a Bool and NULL are truths, all else is ErrType; only TRUE is TRUE.
func TestTruth(t *testing.T) {
	for _, v := range some() {
		want, err := v == yes(), api.OK
		if v.Kind > api.Bool {
			err = api.ErrType
		}
		truths(t, lit(v), nil, want, err)
		truths(t, at(0), row(v), want, err)
		truths(t, at(2), row(yes(), num(1), v, yes()), want, err)
		truths(t, op("isnull", at(1)), row(yes(), v), v == null(), api.OK)
	}
	for _, x := range []struct {
		e    api.Expr
		want bool
	}{
		{op("=", at(0), at(0)), true}, {op("=", at(0), at(1)), false}, {op("=", at(0), lit(num(3))), true}, {op("not", op("=", at(0), at(1))), false}, {op("or", lit(yes()), op("=", at(1), at(1))), true}, {op("and", lit(yes()), op("=", at(1), at(1))), false},
	} {
		truths(t, x.e, row(num(3), null()), x.want, api.OK)
	}
}

// P11.1: Eval's error, and false beside it.
func TestTruthError(t *testing.T) {
	for err, e := range wrongs() {
		truths(t, e, nil, false, err)
		truths(t, op("=", e, lit(null())), row(num(1)), false, err)
		truths(t, op("or", lit(yes()), e), row(num(1)), false, err)
		truths(t, op("or", e, lit(num(1))), nil, false, err)
	}
	for _, x := range []struct {
		v    api.Value
		want bool
		err  api.Errno
	}{{num(0), false, api.ErrZero}, {num(-1), false, api.ErrOver}, {text("a"), false, api.ErrType}, {yes(), false, api.ErrType}, {null(), false, api.OK}, {num(1), true, api.OK}, {num(-2), false, api.OK}} {
		truths(t, tried(at(0)), row(x.v), x.want, x.err)
	}
	truths(t, op("+", at(0), at(0)), row(num(1)), false, api.ErrType)
	truths(t, op("+", at(0), at(0)), row(null()), false, api.OK)
}

// P11.1: the rows of which it is TRUE, in order, each as often as it stands there.
func TestFilter(t *testing.T) {
	l := list(row(num(3), num(1)), row(num(1), num(2)), row(null(), num(3)), row(num(3), num(1)), row(num(2), null()), row(num(3), num(4)))
	filters(t, l, op(">", at(0), lit(num(1))), list(l[0], l[3], l[4], l[5]), api.OK)
	filters(t, l, op("not", op(">", at(0), lit(num(1)))), list(l[1]), api.OK)
	filters(t, l, op("isnull", at(0)), list(l[2]), api.OK)
	filters(t, l, op("<", at(0), at(1)), list(l[1], l[5]), api.OK)
	filters(t, l, lit(yes()), l, api.OK)
	filters(t, l, lit(no()), nil, api.OK)
	filters(t, l, lit(null()), nil, api.OK)
	filters(t, l[4:], op("=", at(0), at(1)), nil, api.OK)
	filters(t, list(nil, nil, nil), lit(yes()), list(nil, nil, nil), api.OK)
	var each []api.Row
	for _, v := range some() {
		each = append(each, row(v))
	}
	filters(t, each, op("notnull", at(0)), each[1:], api.OK)
	filters(t, each[:3], at(0), list(row(yes())), api.OK)
	filters(t, each, at(0), nil, api.ErrType)
	long := list(wide(64, num(7)), wide(64, num(8)), wide(64, num(7)))
	filters(t, long, op("=", at(63), lit(num(7))), list(long[0], long[2]), api.OK)
}

// P11.1: the error of the first row that has one, and no rows; no rows have none.
func TestFilterError(t *testing.T) {
	for err, e := range wrongs() {
		filters(t, nil, e, nil, api.OK)
		filters(t, list(nil), e, nil, err)
		filters(t, nums(1, 2), e, nil, err)
	}
	filters(t, nil, lit(num(1)), nil, api.OK)
	filters(t, nums(1), lit(num(1)), nil, api.ErrType)
	filters(t, nums(1), lit(text("TRUE")), nil, api.ErrType)
	filters(t, nums(2, 1, 0, -1), tried(at(0)), nil, api.ErrZero)
	filters(t, nums(2, 1, -1, 0), tried(at(0)), nil, api.ErrOver)
	filters(t, nums(2, 1, 3, -3), tried(at(0)), nums(2, 1, 3), api.OK)
	filters(t, list(row(num(1)), row(text("a")), row(num(0))), tried(at(0)), nil, api.ErrType)
	filters(t, list(row(yes()), row(num(0)), row(no())), at(0), nil, api.ErrType)
	filters(t, list(row(null()), row(no()), row(num(0))), at(0), nil, api.ErrType)
}

// P11.1: the values of expressions, in order.
func TestProject(t *testing.T) {
	l := list(row(num(3), text("a")), row(null(), text("b")), row(num(3), text("a")))
	projects(t, l, []api.Expr{at(0)}, list(row(num(3)), row(null()), row(num(3))), api.OK)
	projects(t, l, []api.Expr{at(1), op("+", at(0), lit(num(1))), at(1)}, list(row(text("a"), num(4), text("a")), row(text("b"), null(), text("b")), row(text("a"), num(4), text("a"))), api.OK)
	projects(t, l, []api.Expr{lit(yes()), op("isnull", at(0))}, list(row(yes(), no()), row(yes(), yes()), row(yes(), no())), api.OK)
	projects(t, l, nil, list(nil, nil, nil), api.OK)
	projects(t, nil, []api.Expr{at(0)}, nil, api.OK)
	projects(t, nil, nil, nil, api.OK)
	projects(t, list(nil, nil), []api.Expr{lit(num(1)), lit(null())}, list(row(num(1), null()), row(num(1), null())), api.OK)
	projects(t, l, ats(0, 2), l, api.OK)
	many := list(some()[:32], some()[2:34])
	projects(t, many, ats(0, 32), many, api.OK)
	turned := list(slices.Clone(many[0]), slices.Clone(many[1]))
	slices.Reverse(turned[0])
	slices.Reverse(turned[1])
	back := ats(0, 32)
	slices.Reverse(back)
	projects(t, many, back, turned, api.OK)
	projects(t, turned, back, many, api.OK)
	projects(t, list(wide(64, num(1)), wide(64, num(2))), ats(0, 64), list(wide(64, num(1)), wide(64, num(2))), api.OK)
}

// P11.1: row by row, and of each the expressions from the left; no rows have no error.
func TestProjectError(t *testing.T) {
	for err, e := range wrongs() {
		projects(t, nil, []api.Expr{e}, nil, api.OK)
		projects(t, nums(1), []api.Expr{e}, nil, err)
		projects(t, list(nil), []api.Expr{lit(num(1)), e}, nil, err)
		for other, o := range wrongs() {
			projects(t, nums(1, 2), []api.Expr{at(0), e, o}, nil, err)
			projects(t, nums(1, 2), []api.Expr{o, e}, nil, other)
		}
	}
	es := []api.Expr{tried(at(0)), tried(at(1))}
	projects(t, list(row(num(1), num(-1)), row(num(0), num(1))), es, nil, api.ErrOver)
	projects(t, list(row(num(0), num(1)), row(num(1), num(-1))), es, nil, api.ErrZero)
	projects(t, list(row(num(-1), num(0))), es, nil, api.ErrOver)
	projects(t, list(row(num(1), num(1)), row(num(1), num(1)), row(num(1), text("a")), row(num(0), num(0))), es, nil, api.ErrType)
	projects(t, list(row(num(1), num(-2)), row(null(), num(1))), es, list(row(yes(), no()), row(null(), yes())), api.OK)
}

// P11.1: at random.
func TestFilterAny(t *testing.T) {
	m := newMaker(1)
	good, bad := 0, 0
	for range 20000 {
		width := m.Intn(4)
		l := m.rows(6, width)
		e := m.condition(width)
		want, err := plainFilter(l, e)
		filters(t, l, e, want, err)
		es := m.exprs(4, width)
		projected, other := plainProject(l, es)
		projects(t, l, es, projected, other)
		if err == api.OK && len(want) > 0 && other == api.OK {
			good++
		}
		if err != api.OK && other != api.OK {
			bad++
		}
	}
	if good < 2000 || bad < 200 {
		t.Errorf("only %d and %d", good, bad)
	}
}
