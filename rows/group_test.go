package rows_test

import (
	"slices"
	"testing"

	"boscage/api"
	"boscage/rows"
)

func groups(t *testing.T, l []api.Row, keys []api.Expr, aggs []api.Agg, want []api.Row, err api.Errno) {
	t.Helper()
	asks(t, want, err, func(l ...[]api.Row) ([]api.Row, api.Errno) { return rows.Group(l[0], keys, aggs) }, l)
}

func star() api.Agg                         { return api.Agg{Name: "count", Star: true} }
func agg(name string, e api.Expr) api.Agg   { return api.Agg{Name: name, E: e} }
func one(name string, e api.Expr) []api.Agg { return []api.Agg{agg(name, e)} }

// all are all aggregates of one expression.
func all(e api.Expr) []api.Agg {
	return []api.Agg{star(), agg("count", e), agg("sum", e), agg("min", e), agg("max", e)}
}

// P11.5: the chapter's example.
func TestGroupExample(t *testing.T) {
	groups(t, nums(1, 1, 2), ats(0, 1), []api.Agg{star()}, list(row(num(1), num(2)), row(num(2), num(1))), api.OK)
}

// P11.5: groups in the order of their first rows, the keys' values ahead of the aggregates.
func TestGroup(t *testing.T) {
	n := null()
	l := list(row(num(2), num(7)), row(num(1), num(5)), row(n, num(9)), row(num(1), n), row(num(3), n), row(num(2), num(-7)), row(n, num(9)), row(num(1), num(3)))
	groups(t, l, ats(0, 1), all(at(1)), list(
		row(num(2), num(2), num(2), num(0), num(-7), num(7)),
		row(num(1), num(3), num(2), num(8), num(3), num(5)),
		row(n, num(2), num(2), num(18), num(9), num(9)),
		row(num(3), num(1), num(0), n, n, n)), api.OK)
	groups(t, l, nil, all(at(1)), list(row(num(8), num(6), num(26), num(-7), num(9))), api.OK)
	groups(t, l, []api.Expr{op("isnull", at(1)), op("isnull", at(0))}, []api.Agg{agg("max", at(0)), star(), agg("max", at(0))}, list(
		row(no(), no(), num(2), num(4), num(2)),
		row(no(), yes(), n, num(2), n),
		row(yes(), no(), num(3), num(2), num(3))), api.OK)
	groups(t, l, ats(0, 1), nil, list(row(num(2)), row(num(1)), row(n), row(num(3))), api.OK)
	groups(t, l, []api.Expr{at(0), at(0)}, one("count", op("+", at(0), at(1))), list(
		row(num(2), num(2), num(2)), row(num(1), num(1), num(2)), row(n, n, num(0)), row(num(3), num(3), num(0))), api.OK)
	groups(t, l, []api.Expr{lit(n)}, []api.Agg{agg("sum", at(0)), star()}, list(row(n, num(10), num(8))), api.OK)
	long := list(wide(64, num(1)), wide(64), wide(64, num(1)))
	groups(t, long, ats(0, 64), nil, long[:2], api.OK)
	groups(t, long, ats(1, 63), []api.Agg{star()}, list(append(wide(63, num(1)), num(2)), append(wide(63), num(1))), api.OK)
}

// P11.5: without keys there is one group, also of no rows; with keys there is none of no rows.
func TestGroupNone(t *testing.T) {
	n := null()
	groups(t, nil, nil, all(at(0)), list(row(num(0), num(0), n, n, n)), api.OK)
	groups(t, nil, nil, nil, list(nil), api.OK)
	groups(t, nil, []api.Expr{}, []api.Agg{}, list(nil), api.OK)
	groups(t, nil, ats(0, 1), all(at(0)), nil, api.OK)
	groups(t, nil, []api.Expr{lit(num(1))}, []api.Agg{star()}, nil, api.OK)
	groups(t, nums(4, 5), nil, nil, list(nil), api.OK)
	groups(t, list(nil, nil), nil, all(lit(n)), list(row(num(2), num(0), n, n, n)), api.OK)
	groups(t, list(nil, nil), nil, all(lit(num(3))), list(row(num(2), num(2), num(6), num(3), num(3))), api.OK)
	groups(t, list(row(n), row(n)), ats(0, 1), all(at(0)), list(row(n, num(2), num(0), n, n, n)), api.OK)
	for _, e := range wrongs() {
		groups(t, nil, nil, all(e), list(row(num(0), num(0), n, n, n)), api.OK)
		groups(t, nil, []api.Expr{e}, all(e), nil, api.OK)
	}
}

// P11.5: rows with the same values of all keys are in one group, and no others.
func TestGroupApart(t *testing.T) {
	var l, ones, twos []api.Row
	for _, v := range some() {
		for _, w := range some() {
			l = append(l, row(v, w))
			twos = append(twos, row(v, w, num(2)))
		}
		ones = append(ones, row(v, num(int64(2*len(some())))))
	}
	groups(t, slices.Concat(l, l), ats(0, 2), []api.Agg{star()}, twos, api.OK)
	groups(t, slices.Concat(l, l), ats(0, 1), []api.Agg{star()}, ones, api.OK)
	groups(t, slices.Concat(l, l), ats(1, 1), []api.Agg{star()}, ones, api.OK)
	slices.Reverse(l)
	slices.Reverse(ones)
	groups(t, slices.Concat(l, l), ats(0, 1), []api.Agg{star()}, ones, api.OK)
}

// P11.5: the least and the greatest of all Kinds, NULL left out.
func TestGroupEnds(t *testing.T) {
	m := newMaker(6)
	both := []api.Agg{agg("min", at(0)), agg("max", at(0)), agg("count", at(0))}
	for i, v := range some() {
		groups(t, list(row(v)), nil, both[:2], list(row(v, v)), api.OK)
		for k, w := range some()[:i] {
			want := row(w, v, num(2))
			if k == 0 {
				want = row(v, v, num(1))
			}
			groups(t, list(row(v), row(w)), nil, both, list(want), api.OK)
			groups(t, list(row(w), row(v), row(null())), nil, both, list(want), api.OK)
		}
	}
	for range 200 {
		var l []api.Row
		for range 1 + m.Intn(6) {
			l = append(l, row(pick(m, some()...)))
		}
		want, err := plainGroup(l, nil, both)
		groups(t, l, nil, both, want, err)
	}
}

// P11.5: a sum is added in order; ErrOver, where it is beyond 64 bits on the way.
func TestGroupSum(t *testing.T) {
	for _, x := range []struct {
		l   []int64
		sum int64
		err api.Errno
	}{
		{[]int64{5}, 5, api.OK}, {[]int64{5, -5}, 0, api.OK}, {[]int64{most}, most, api.OK}, {[]int64{least}, least, api.OK}, {[]int64{most, least}, -1, api.OK}, {[]int64{most, -1, 1}, most, api.OK}, {[]int64{-1, most, 1}, most, api.OK}, {[]int64{most, 0, least, 1}, 0, api.OK}, {[]int64{least, most, most}, most - 1, api.OK},
		{[]int64{most, 1, -1}, 0, api.ErrOver}, {[]int64{1, most, -1}, 0, api.ErrOver}, {[]int64{least, -1, 1}, 0, api.ErrOver}, {[]int64{most, most, least}, 0, api.ErrOver}, {[]int64{least, least, most, most}, 0, api.ErrOver}, {[]int64{1 << 62, 1 << 62}, 0, api.ErrOver}, {[]int64{-1 << 62, -1 << 62}, least, api.OK}, {[]int64{-1 << 62, -1 << 62, -1}, 0, api.ErrOver},
	} {
		l, sum := nums(x.l...), list(row(num(x.sum)))
		if x.err != api.OK {
			sum = nil
		}
		groups(t, l, nil, one("sum", at(0)), sum, x.err)
		var spread []api.Row
		for _, r := range l {
			spread = append(spread, row(null(), num(1)), row(r[0], num(2)), row(null(), num(2)))
		}
		two := list(row(num(1), null()), row(num(2), num(x.sum)))
		if x.err != api.OK {
			two = nil
		}
		groups(t, spread, ats(1, 1), one("sum", at(0)), two, x.err)
		groups(t, l, nil, []api.Agg{star(), agg("min", at(0)), agg("max", at(0)), agg("count", at(0))}, list(row(num(int64(len(l))), num(slices.Min(x.l)), num(slices.Max(x.l)), num(int64(len(l))))), api.OK)
	}
}

// P11.5: ErrArg of another aggregate, and of Star with another one than count, ahead of all else, also of no rows.
func TestGroupName(t *testing.T) {
	var bad []api.Agg
	for _, name := range []string{"", "avg", "Count", "COUNT", "Sum", "count ", " sum", "counts", "mins", "maximum", "total", "first", "\x00", "su", "countsum"} {
		bad = append(bad, agg(name, at(0)), api.Agg{Name: name, Star: true}, api.Agg{Name: name})
	}
	for _, name := range []string{"sum", "min", "max"} {
		bad = append(bad, api.Agg{Name: name, Star: true}, api.Agg{Name: name, Star: true, E: at(0)}, api.Agg{Name: name, Star: true, E: lit(num(1))})
	}
	for _, a := range bad {
		for _, l := range [][]api.Row{nil, nums(1), nums(1, 2)} {
			groups(t, l, nil, []api.Agg{a}, nil, api.ErrArg)
			groups(t, l, ats(0, 1), []api.Agg{star(), agg("max", at(0)), a}, nil, api.ErrArg)
			groups(t, l, ats(0, 1), []api.Agg{a, star()}, nil, api.ErrArg)
			for _, e := range wrongs() {
				groups(t, l, []api.Expr{e}, []api.Agg{agg("count", e), a}, nil, api.ErrArg)
			}
			groups(t, l, nil, []api.Agg{agg("sum", lit(text("a"))), a}, nil, api.ErrArg)
		}
		groups(t, nums(most, most), nil, []api.Agg{agg("sum", at(0)), a}, nil, api.ErrArg)
	}
}

// P11.5: count with Star asks no E.
func TestGroupStar(t *testing.T) {
	for _, e := range wrongs() {
		groups(t, nums(1, 2), nil, []api.Agg{{Name: "count", Star: true, E: e}}, list(row(num(2))), api.OK)
	}
	groups(t, list(row(null()), nil, row(num(1))), nil, []api.Agg{{Name: "count", Star: true, E: lit(null())}, {Name: "count", Star: true, E: at(0)}}, list(row(num(3), num(3))), api.OK)
}

// P11.5: the first row's error; of a row the keys' ahead of the aggregates', each from the left.
func TestGroupError(t *testing.T) {
	for err, e := range wrongs() {
		groups(t, nums(1), []api.Expr{e}, nil, nil, err)
		for _, name := range []string{"count", "sum", "min", "max"} {
			groups(t, nums(1), nil, one(name, e), nil, err)
			groups(t, nums(1, 2), ats(0, 1), []api.Agg{star(), agg("max", at(0)), agg(name, e)}, nil, err)
			for other, o := range wrongs() {
				groups(t, nums(1, 2), []api.Expr{at(0), e}, one(name, o), nil, err)
				groups(t, nums(1, 2), []api.Expr{o, at(0), e}, nil, nil, other)
				groups(t, nums(1, 2), ats(0, 1), []api.Agg{agg(name, e), agg("count", o)}, nil, err)
				groups(t, nums(1, 2), ats(0, 1), []api.Agg{agg("min", o), agg(name, e)}, nil, other)
			}
		}
	}
	keys, aggs := []api.Expr{tried(at(0))}, one("min", tried(at(1)))
	groups(t, list(row(num(1), num(-1)), row(num(0), num(1))), keys, aggs, nil, api.ErrOver)
	groups(t, list(row(num(0), num(1)), row(num(1), num(-1))), keys, aggs, nil, api.ErrZero)
	groups(t, list(row(num(0), num(-1)), row(num(0), num(-1))), keys, aggs, nil, api.ErrZero)
	groups(t, list(row(num(1), num(1)), row(num(-1), num(0))), keys, aggs, nil, api.ErrOver)
	two := []api.Agg{agg("max", tried(at(0))), agg("count", tried(at(1)))}
	groups(t, list(row(num(1), num(-1)), row(num(0), num(1))), nil, two, nil, api.ErrOver)
	groups(t, list(row(num(0), num(1)), row(num(1), num(-1))), nil, two, nil, api.ErrZero)
	groups(t, list(row(num(0), num(-1))), nil, two, nil, api.ErrZero)
}

// P11.5: ErrType, where a value for a sum is none, in its place among the others' errors; what is added is added behind all that.
func TestGroupSumError(t *testing.T) {
	for _, v := range some() {
		err := api.OK
		if v.Kind != api.Null && v.Kind != api.Int {
			err = api.ErrType
		}
		want, _ := plainGroup(list(row(v)), nil, one("sum", at(0)))
		groups(t, list(row(v)), nil, one("sum", at(0)), want, err)
		want, _ = plainGroup(list(row(num(0)), row(v)), nil, one("sum", at(0)))
		groups(t, list(row(num(0)), row(v)), nil, one("sum", at(0)), want, err)
		groups(t, list(row(v), row(v)), nil, []api.Agg{agg("count", at(0)), star()}, list(row(num(2*min(int64(v.Kind), 1)), num(2))), api.OK)
	}
	zero, kind := op("/", lit(num(1)), at(0)), lit(text("a"))
	groups(t, nums(1, 0), nil, []api.Agg{agg("sum", kind), agg("min", zero)}, nil, api.ErrType)
	groups(t, nums(1, 0), nil, []api.Agg{agg("min", zero), agg("sum", kind)}, nil, api.ErrType)
	groups(t, nums(0, 1), nil, []api.Agg{agg("min", zero), agg("sum", kind)}, nil, api.ErrZero)
	groups(t, nums(0, 1), []api.Expr{zero}, one("sum", kind), nil, api.ErrZero)
	groups(t, list(row(num(1)), row(text("a")), row(num(0))), nil, []api.Agg{agg("sum", at(0)), agg("max", lit(num(1)))}, nil, api.ErrType)
	over := row(num(most), num(1))
	for err, last := range map[api.Errno]api.Row{api.ErrZero: row(num(1), num(0)), api.ErrType: row(yes(), num(1))} {
		l := list(over, over, over, last)
		aggs := []api.Agg{agg("sum", at(0)), agg("count", op("/", lit(num(1)), at(1)))}
		groups(t, l, nil, aggs, nil, err)
		groups(t, l, ats(1, 1), aggs, nil, err)
		groups(t, l[:3], ats(1, 1), aggs, nil, api.ErrOver)
	}
	groups(t, list(over, over, row(num(1), num(0))), []api.Expr{op("/", lit(num(1)), at(1))}, one("sum", at(0)), nil, api.ErrZero)
	groups(t, nums(most, 1), ats(0, 1), one("sum", at(0)), list(row(num(most), num(most)), row(num(1), num(1))), api.OK)
}

// P11.5: at random.
func TestGroupAny(t *testing.T) {
	m := newMaker(7)
	good, bad := 0, 0
	for range 30000 {
		width := m.Intn(4)
		l := m.rows(8, width)
		keys := m.exprs(2, width)
		var aggs []api.Agg
		for range m.Intn(4) {
			aggs = append(aggs, pick(m, star(), agg("count", m.expr(width)), agg("sum", m.place(width)), agg("min", m.expr(width)), agg("max", m.expr(width)), agg("sum", triedNumber(m.place(width)))))
		}
		if m.Intn(40) == 0 {
			aggs = append(aggs, pick(m, agg("avg", m.expr(width)), api.Agg{Name: "max", Star: true}))
		}
		want, err := plainGroup(l, keys, aggs)
		groups(t, l, keys, aggs, want, err)
		if err != api.OK {
			bad++
		} else if len(want) > 1 {
			good++
		}
	}
	if good < 3000 || bad < 3000 {
		t.Errorf("only %d and %d", good, bad)
	}
}

// R6: many rows in many groups are told ahead of long.
func TestGroupMany(t *testing.T) {
	var l, want []api.Row
	for i := range int64(60000) {
		l = append(l, row(num(i%20000), num(i)))
	}
	for i := range int64(20000) {
		want = append(want, row(num(i), num(3), num(3), num(3*i+60000), num(i), num(i+40000)))
	}
	if got, e := rows.Group(l, ats(0, 1), all(at(1))); !same(got, want) || e != api.OK {
		t.Errorf("got %s, %d", shown(got), e)
	}
	if got, e := rows.Sort(l, []api.Key{up(at(0)), down(at(1))}); len(got) != 60000 || !slices.Equal(got[0], l[40000]) || e != api.OK {
		t.Errorf("got %s, %d", shown(got), e)
	}
}

// R1: of rows, keys and expressions of which nothing is said it ends.
func TestGroupsEnd(t *testing.T) {
	odd := list(nil, row(num(1)), wide(100), row(api.Value{Kind: 9}), row(api.Value{I: 1}), row(api.Value{Kind: api.Int, I: most, S: "a"}))
	for _, e := range []api.Expr{{}, at(0), at(-1), at(64), at(most), {Op: "col", Name: "a"}, op("and"), op("="), lit(api.Value{Kind: 9}), lit(num(most)), {Op: "star"}, call("sum", at(0))} {
		rows.Group(odd, nil, all(e))
		rows.Group(odd, slices.Repeat([]api.Expr{e}, 100), slices.Repeat(all(e), 30))
		rows.Group(odd, slices.Repeat([]api.Expr{lit(null())}, 100), slices.Repeat(all(e), 30))
		rows.Group(odd[1:2], ats(0, 1), all(e))
	}
}
