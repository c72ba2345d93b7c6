package naive_test

import (
	"slices"
	"testing"

	"boscage/api"
	"boscage/naive"
)

// P13.1: the rows of the first of db with the Table, in order, each as often as it stands there.
func TestScan(t *testing.T) {
	for _, x := range []struct {
		table string
		wide  int
		want  []api.Row
	}{{"t", 2, data()[0].L}, {"u", 2, data()[1].L}, {"v", 1, nums(2, 5)}, {"z", 0, list(nil, nil, nil)}, {"nil", 3, nil}} {
		runsWhole(t, scan(x.table, x.wide), x.want, api.OK)
	}
	double := []api.Data{{Table: "a", L: nums(1)}, {Table: "b"}, {Table: "", L: nums(4, 3, 4)}, {Table: "a", L: nums(2)}, {Table: "b", L: nums(3)}}
	runs(t, scan("a", 1), double, nums(1), api.OK)
	runs(t, scan("b", 1), double, nil, api.OK)
	runs(t, scan("", 1), double, nums(4, 3, 4), api.OK)
	slices.Reverse(double)
	runs(t, scan("a", 1), double, nums(2), api.OK)
	runs(t, scan("b", 1), double, nums(3), api.OK)
	long := make(api.Row, 64)
	long[0], long[63] = num(least), blob("\x00\xff")
	runs(t, scan("long", 64), []api.Data{{Table: "long", L: list(long, long)}}, list(long, long), api.OK)
}

// P13.1: ErrNone, if db has no such table.
func TestScanNone(t *testing.T) {
	for _, name := range []string{"", "none", "T", "t ", " t", "tt", "ni", "nil\x00", "u, t"} {
		runs(t, scan(name, 2), data(), nil, api.ErrNone)
		runs(t, scan(name, 0), data(), nil, api.ErrNone)
		runs(t, distinct(scan(name, 2)), data(), nil, api.ErrNone)
	}
	runs(t, scan("t", 2), nil, nil, api.ErrNone)
	runs(t, scan("t", 2), []api.Data{{Table: "u", L: nums(1)}, {}}, nil, api.ErrNone)
}

// P13.1: one row without values, whatever tables there are.
func TestOne(t *testing.T) {
	runsWhole(t, one(), list(nil), api.OK)
	runs(t, one(), nil, list(nil), api.OK)
	runsWhole(t, project([]api.Expr{lit(num(7)), lit(null())}, one()), list(row(num(7), null())), api.OK)
	runsWhole(t, cross(one(), one()), list(nil), api.OK)
	runsWhole(t, cross(one(), scan("v", 1)), nums(2, 5), api.OK)
	runsWhole(t, filter(lit(no()), one()), nil, api.OK)
}

// P13.1: a node of one other as rows does it.
func TestNodes(t *testing.T) {
	s, v := scan("t", 2), scan("v", 1)
	rows := data()[0].L
	runsWhole(t, filter(op(">", at(0), lit(num(1))), s), rows[1:], api.OK)
	runsWhole(t, filter(op("isnull", at(1)), s), list(rows[1], rows[4]), api.OK)
	runsWhole(t, filter(op("=", at(1), lit(num(10))), s), list(rows[0], rows[2]), api.OK)
	runsWhole(t, project([]api.Expr{at(1), op("+", at(0), lit(num(1))), at(1)}, s), list(row(num(10), num(2), num(10)), row(null(), num(3), null()), row(num(10), num(4), num(10)), row(num(20), num(5), num(20)), row(null(), num(3), null())), api.OK)
	runsWhole(t, project(nil, v), list(nil, nil), api.OK)
	runsWhole(t, distinct(s), rows[:4], api.OK)
	runsWhole(t, distinct(scan("z", 0)), list(nil), api.OK)
	runsWhole(t, sorted([]api.Key{{E: at(1), Desc: true}, {E: at(0)}}, s), list(rows[3], rows[0], rows[2], rows[1], rows[4]), api.OK)
	runsWhole(t, sorted([]api.Key{{E: op("neg", at(0))}}, s), list(rows[3], rows[2], rows[1], rows[4], rows[0]), api.OK)
	runsWhole(t, sorted(nil, s), rows, api.OK)
	runsWhole(t, limit(2, 1, s), rows[1:3], api.OK)
	runsWhole(t, limit(1, 2, s), rows[2:3], api.OK)
	runsWhole(t, limit(-1, 3, s), rows[3:], api.OK)
	runsWhole(t, limit(3, -1, s), rows[:3], api.OK)
	runsWhole(t, limit(0, 0, s), nil, api.OK)
	runsWhole(t, limit(most, most, s), nil, api.OK)
	runsWhole(t, limit(least, least, s), rows, api.OK)
	var aggs []api.Agg
	for _, name := range aggregates() {
		aggs = append(aggs, api.Agg{Name: name, E: at(0)})
	}
	aggs = append(aggs, api.Agg{Name: "count", Star: true})
	runsWhole(t, group(ats(1, 1), aggs, s), list(row(num(10), num(2), num(4), num(1), num(3), num(2)), row(null(), num(2), num(4), num(2), num(2), num(2)), row(num(20), num(1), num(4), num(4), num(4), num(1))), api.OK)
	runsWhole(t, group(nil, aggs, s), list(row(num(5), num(12), num(1), num(4), num(5))), api.OK)
	runsWhole(t, group(nil, aggs, scan("nil", 3)), list(row(num(0), null(), null(), null(), num(0))), api.OK)
	runsWhole(t, group(ats(0, 1), aggs, scan("nil", 3)), nil, api.OK)
	runsWhole(t, group(ats(0, 2), nil, s), rows[:4], api.OK)
}

// P13.1: a join of Kind, with E; the NULLs are as many as the other side is wide.
func TestJoin(t *testing.T) {
	rows, others := data()[0].L, data()[1].L
	on := op("=", at(0), at(3))
	both := list(slices.Concat(rows[0], others[0]), slices.Concat(rows[2], others[1]), slices.Concat(rows[2], others[2]))
	lefts := list(both[0], row(num(2), null(), null(), null()), both[1], both[2], row(num(4), num(20), null(), null()), row(num(2), null(), null(), null()))
	right := row(null(), null(), null(), num(9))
	for kind, want := range map[string][]api.Row{"inner": both, "left": lefts, "right": append(slices.Clone(both), right), "full": append(slices.Clone(lefts), right)} {
		runsWhole(t, join(kind, on, scan("t", 2), scan("u", 2)), want, api.OK)
	}
	var all []api.Row
	for _, r := range rows {
		for _, o := range others {
			all = append(all, slices.Concat(r, o))
		}
	}
	runsWhole(t, cross(scan("t", 2), scan("u", 2)), all, api.OK)
	runsWhole(t, join("inner", lit(yes()), scan("t", 2), scan("u", 2)), all, api.OK)
	wide := func(n int64) api.Row { return row(num(n), null(), null(), null()) }
	back := func(n int64) api.Row { return row(null(), null(), null(), num(n)) }
	for kind, want := range map[string][]api.Row{"inner": nil, "left": list(wide(2), wide(5)), "right": nil, "full": list(wide(2), wide(5)), "cross": nil} {
		e := lit(yes())
		if kind == "cross" {
			e = api.Expr{}
		}
		runsWhole(t, join(kind, e, scan("v", 1), scan("nil", 3)), want, api.OK)
	}
	for kind, want := range map[string][]api.Row{"inner": nil, "left": nil, "right": list(back(2), back(5)), "full": list(back(2), back(5))} {
		runsWhole(t, join(kind, lit(yes()), scan("nil", 3), scan("v", 1)), want, api.OK)
		runsWhole(t, join(kind, lit(null()), scan("nil", 3), scan("v", 1)), want, api.OK)
	}
	for kind, want := range map[string][]api.Row{"inner": nil, "left": nums(2, 5), "right": list(row(null())), "full": append(nums(2, 5), row(null()))} {
		runsWhole(t, join(kind, lit(no()), scan("v", 1), one()), want, api.OK)
	}
}

// P13.1: a put of Kind, the left side's rows ahead.
func TestPut(t *testing.T) {
	a := project(ats(0, 1), scan("t", 2)) // 1, 2, 3, 4, 2
	b := scan("v", 1)                     // 2, 5
	for kind, want := range map[string][]api.Row{"unionall": nums(1, 2, 3, 4, 2, 2, 5), "union": nums(1, 2, 3, 4, 5), "intersect": nums(2), "except": nums(1, 3, 4)} {
		runsWhole(t, put(kind, a, b), want, api.OK)
	}
	for kind, want := range map[string][]api.Row{"unionall": nums(2, 5, 1, 2, 3, 4, 2), "union": nums(2, 5, 1, 3, 4), "intersect": nums(2), "except": nums(5)} {
		runsWhole(t, put(kind, b, a), want, api.OK)
	}
	for kind, want := range map[string][]api.Row{"unionall": nums(2, 5, 2, 5), "union": nums(2, 5), "intersect": nums(2, 5), "except": nil} {
		runsWhole(t, put(kind, b, b), want, api.OK)
	}
	runsWhole(t, put("except", put("union", b, a), put("unionall", b, b)), nums(1, 3, 4), api.OK)
	runsWhole(t, put("union", put("except", b, a), a), nums(5, 1, 2, 3, 4), api.OK)
}

// P13.1: what a node works on comes first, and its error ahead of the node's own.
func TestErrorBelow(t *testing.T) {
	zero, over := op("/", lit(num(1)), lit(num(0))), op("neg", lit(num(least)))
	for err, bad := range failing() {
		runs(t, bad, data(), nil, err)
		for _, a := range []api.Alg{
			filter(op("isnull", zero), bad), filter(op("isnull", over), bad), filter(lit(no()), bad), filter(lit(num(1)), bad),
			project([]api.Expr{zero}, bad), project([]api.Expr{over}, bad), project(nil, bad),
			group([]api.Expr{zero}, nil, bad), group(nil, []api.Agg{{Name: "sum", E: lit(text("a"))}}, bad), group(nil, nil, bad),
			sorted([]api.Key{{E: zero}}, bad), sorted([]api.Key{{E: over}}, bad),
			distinct(bad), limit(0, 0, bad), limit(1, most, bad),
		} {
			runs(t, a, data(), nil, err)
			runs(t, limit(0, 0, distinct(a)), data(), nil, err)
			runs(t, filter(op("isnull", zero), sorted([]api.Key{{E: over}}, a)), data(), nil, err)
		}
	}
	for _, a := range []api.Alg{filter(op("isnull", zero), scan("v", 1)), project([]api.Expr{at(0), zero}, scan("v", 1)), group(nil, []api.Agg{{Name: "max", E: zero}}, scan("v", 1)), sorted([]api.Key{{E: zero}}, scan("v", 1)), join("left", op("isnull", zero), scan("v", 1), scan("t", 2)), filter(op("isnull", op("/", at(0), op("-", at(0), lit(num(5))))), scan("v", 1))} {
		runsWhole(t, a, nil, api.ErrZero)
		runsWhole(t, limit(0, 0, a), nil, api.ErrZero)
	}
	runsWhole(t, filter(at(0), scan("v", 1)), nil, api.ErrType)
	runsWhole(t, project([]api.Expr{zero}, scan("nil", 3)), nil, api.OK)
	runsWhole(t, group(nil, []api.Agg{{Name: "sum", E: op("+", at(0), lit(num(most-6)))}}, scan("v", 1)), nil, api.ErrOver)
}

// P13.1: both sides come first, from the left, also where the other side has no rows and would have been enough.
func TestErrorFromLeft(t *testing.T) {
	empty := filter(lit(no()), one())
	own := op("isnull", op("%", lit(num(1)), lit(num(0))))
	for err, bad := range failing() {
		for _, kind := range kinds() {
			e := own
			if kind == "cross" {
				e = api.Expr{}
			}
			for _, side := range []api.Alg{one(), empty, scan("z", 0)} {
				runs(t, join(kind, e, bad, side), data(), nil, err)
				runs(t, join(kind, e, side, bad), data(), nil, err)
			}
		}
		for _, kind := range puts() {
			for _, side := range []api.Alg{one(), empty} {
				runs(t, put(kind, bad, side), data(), nil, err)
				runs(t, put(kind, side, bad), data(), nil, err)
			}
		}
		for other, worse := range failing() {
			runs(t, cross(bad, worse), data(), nil, err)
			runs(t, put("intersect", bad, worse), data(), nil, err)
			runs(t, join("full", own, distinct(limit(0, 0, worse)), bad), data(), nil, other)
			runs(t, cross(cross(one(), bad), worse), data(), nil, err)
			runs(t, cross(one(), put("except", bad, worse)), data(), nil, err)
			runs(t, put("union", filter(own, bad), worse), data(), nil, err)
			runs(t, put("union", filter(own, one()), worse), data(), nil, api.ErrZero)
		}
	}
}

// P13.1: queries' rows are those that SQL's words mean.
func TestQueries(t *testing.T) {
	for s, want := range map[string]string{
		"select a from t where a > 1":                                                         "(2) (3) (4) (2)",
		"select a from t where b is null":                                                     "(2) (2)",
		"select b = 10 n from t":                                                              "(TRUE) (NULL) (TRUE) (FALSE) (NULL)",
		"select t.a, u.c from t left join u on t.a = d":                                       "(1, 'x') (2, NULL) (3, 'y') (3, 'z') (4, NULL) (2, NULL)",
		"select c, a from t right join u on t.a = d order by 2 desc, 1":                       "('y', 3) ('z', 3) ('x', 1) (NULL, NULL)",
		"select b, count(*) from t group by b order by 1 desc":                                "(20, 1) (10, 2) (NULL, 2)",
		"select b + 1, sum(a) * 2 n from t group by b + 1 having sum(a) > 4 or b + 1 is null": "(NULL, 8)",
		"select a from t union select 7":                                                      "(1) (2) (3) (4) (7)",
		"select a from t union select e from v order by a desc limit 3 offset 1":              "(4) (3) (2)",
		"select a from t intersect select e from v":                                           "(2)",
		"select e from v except select a from t union all select 5":                           "(5) (5)",
		"select count(*), count(b), min(b), max(t.a), sum(t.a) from t, v where t.a < v.e":     "(6, 4, 10, 4, 13)",
		"select distinct b from t order by b":                                                 "(NULL) (10) (20)",
		"select x.a, y.a from t x join t y on x.b = y.b and x.a < y.a":                        "(1, 3)",
		"select v.*, x.* from v full join t x on v.e = x.a where v.e is null or x.a is null":  "(5, NULL, NULL) (NULL, 1, 10) (NULL, 3, 10) (NULL, 4, 20)",
		"select max(a) from t where a > 9 group by b":                                         "",
		"select count(*), sum(a) from t where a > 9":                                          "(0, NULL)",
		"select 7, 'it''s' where 1 = 1":                                                       "(7, 'it''s')",
		"select 1 / 0 from nil":                                                               "",
		"select count(*) from z":                                                              "(3)",
	} {
		a := queried(s, tables())
		l, err := naive.Run(a, data())
		if got := told(l); got != want || err != api.OK || slices.ContainsFunc(l, func(r api.Row) bool { return len(r) != a.Wide }) {
			t.Errorf("%q: got %s, %d, want %s", s, got, err, want)
			continue
		}
		runsWhole(t, a, l, api.OK)
	}
}

// P13.1: queries' errors.
func TestQueriesError(t *testing.T) {
	for s, err := range map[string]api.Errno{
		"select 1 / 0 from t":                                   api.ErrZero,
		"select a / (a - 3) from t":                             api.ErrZero,
		"select a from t where b":                               api.ErrType,
		"select a from t where 1 / 0 = 1 limit 0":               api.ErrZero,
		"select sum(c) from u":                                  api.ErrType,
		"select a from t join v on a / (e - 5) > 0":             api.ErrZero,
		"select a from t order by 1 / 0":                        api.ErrZero,
		"select -9223372036854775807 - a from t":                api.ErrOver,
		"select c from u where c like '\\'":                     api.ErrLike,
		"select nosuch(a) from t":                               api.ErrArg,
		"select a from nil where a = 1 union all select 1 % 0":  api.ErrZero,
		"select 1 / 0 union select -(-9223372036854775807 - 1)": api.ErrZero,
		"select -(-9223372036854775807 - 1) union select 1 / 0": api.ErrOver,
	} {
		runsWhole(t, queried(s, tables()), nil, err)
	}
}
