package bind_test

import (
	"strings"
	"testing"

	"boscage/api"
	"boscage/bind"
)

// P12.1: of no from one row without values; of a table the first one of its name.
func TestFromTable(t *testing.T) {
	binds(t, "select 1", "project 1 [1] of one 0", "")
	binds(t, "select 1 + 2 n, 'a'", "project 2 [1 + 2; 'a'] of one 0", "n", "")
	binds(t, "select *", "project 0 of one 0")
	binds(t, "select 1, * where 1 = 2", "project 1 [1] of filter 0 [1 = 2] of one 0", "")
	binds(t, "select a from t", "project 1 [p0] of scan t 2", "a")
	binds(t, "select b, a, b from t", "project 3 [p1; p0; p1] of scan t 2", "b", "a", "b")
	binds(t, "select x.a, b from t as x", "project 2 [p0; p1] of scan t 2", "a", "b")
	binds(t, "select c, u.b from u", "project 2 [p1; p0] of scan u 2", "c", "b")
	binds(t, "select u.a from t u", "project 1 [p0] of scan t 2", "a")
	binds(t, "select b from d", "project 1 [p2] of scan d 3", "b")
	binds(t, "select * from d", "project 3 [p0; p1; p2] of scan d 3", "a", "a", "b")
	binds(t, "select 7, * from z", "project 1 [7] of scan z 0", "")
	binds(t, "select k63, w.k0 from w", "project 2 [p63; p0] of scan w 64", "k63", "k0")
	refuses(t, api.ErrName,
		"select a from v", "select 1 from v", "select * from ta", "select t.a from t x", "select c from t", "select t.c from t, u", "select d from t",
		"select u.a from t, u", "select a from z", "select z.a from t, z", "select a",
	)
}

// P12.1: a col is found, if there is just one of its name, and of its table, if it has one.
func TestCols(t *testing.T) {
	refuses(t, api.ErrName,
		"select a from d", "select d.a from d", "select b from t, u", "select a from t x, t y", "select x.a from d x, t", "select a + 1 from t, d",
		"select b from t, u, d", "select t.k from t", "select v.a from t", "select a.a from t", "select b from t x left join u on x.a = c where b = 1",
	)
	binds(t, "select x.a, y.a, x.b, u.b, c from t x, t y, u", "project 5 [p0; p2; p1; p4; p5] of join cross 6 of (join cross 4 of (scan t 2), (scan t 2)), (scan u 2)", "a", "a", "b", "b", "c")
	binds(t, "select t.b from t u, u t", "project 1 [p2] of join cross 4 of (scan t 2), (scan u 2)", "b")
	binds(t, "select d.b from d, u", "project 1 [p2] of join cross 5 of (scan d 3), (scan u 2)", "b")
	for _, db := range [][]api.Cols{{cols("t", "a")}, {cols("t", "a"), cols("t", "b")}, {cols("v", "b"), cols("t", "a"), cols("t", "a", "b")}} {
		if a, names, err := queries(t, asked("select a from t"), db); told(a) != "project 1 [p0] of scan t 1" || err != api.OK || strings.Join(names, ",") != "a" {
			t.Errorf("%v: got %s, %q, %d", db, told(a), names, err)
		}
		if a, _, err := queries(t, asked("select b from t"), db); err != api.ErrName {
			t.Errorf("%v: got %s, %d", db, told(a), err)
		}
	}
	if _, _, err := queries(t, asked("select 1 from t"), nil); err != api.ErrName {
		t.Errorf("of no tables: got %d", err)
	}
}

// P12.1: each Op stays as it is, wherever an expression stands, with places where it has cols.
func TestExprs(t *testing.T) {
	moved := strings.NewReplacer("p0", "p32", "p1", "p33")
	for s, want := range map[string]string{
		"a": "p0", "-a": "-(p0)", "- 5": "-5", "not a": "NOT p0", "a is null": "p0 IS NULL", "b is not null": "p1 IS NOT NULL",
		"a and b or a": "(p0 AND p1) OR p0", "a between b and 3": "p0 BETWEEN p1 AND 3", "a in (b, 1, a)": "p0 IN (p1, 1, p0)",
		"a not like '%' || b": "NOT (p0 LIKE ('%' || p1))", "f()": "f()", "coalesce(a, x.b, null)": "coalesce(p0, p1, NULL)",
		"abs(a % 2) * (b - true)": "abs(p0 % 2) * (p1 - TRUE)", "x'00ff'": "x'00ff'", "a <> b and a <= b": "(p0 <> p1) AND (p0 <= p1)",
		"counts(a)": "counts(p0)", "avg(b)": "avg(p1)", "a / (b + a)": "p0 / (p1 + p0)",
	} {
		name := ""
		if s == "a" {
			name = s
		}
		binds(t, "select "+s+" from t x", "project 1 ["+want+"] of scan t 2", name)
		binds(t, "select 1 from t x where "+s, "project 1 [1] of filter 2 ["+want+"] of scan t 2", "")
		binds(t, "select 1 n from t x group by b, "+s, "project 1 [1] of group 2 [p1; "+want+"] of scan t 2", "n")
		binds(t, "select max("+s+") from t x", "project 1 [p0] of group 1 [max("+want+")] of scan t 2", "")
		binds(t, "select 1 from h join t x on "+s, "project 1 [1] of join inner 34 ["+moved.Replace(want)+"] of (scan h 32), (scan t 2)", "")
	}
	for i := range 40 {
		q := one(api.Select{Items: items(nested("neg", i, col("b"))), From: table("t")})
		a, _, err := queries(t, q, tables())
		if err != api.OK || shown(a.Es) != shown([]api.Expr{nested("neg", i, at(1))}) {
			t.Errorf("%d deep: got %s, %d", i+1, shown(a), err)
		}
	}
}

// nested has a part in so many of one Op.
func nested(o string, many int, part api.Expr) api.Expr {
	for range many {
		part = op(o, part)
	}
	return part
}

// P12.1: joins of each Kind: On is of both sides, the left one's places ahead.
func TestJoins(t *testing.T) {
	words := map[string]string{"inner": "join", "left": "left join", "right": "right outer join", "full": "full join"}
	for kind, word := range words {
		binds(t, "select * from t "+word+" u on t.b = c and u.b > a", "project 4 [p0; p1; p2; p3] of join "+kind+" 4 [(p1 = p3) AND (p2 > p0)] of (scan t 2), (scan u 2)", "a", "b", "b", "c")
		binds(t, "select c from t "+word+" u on true "+word+" o on o.a = t.a", "project 1 [p3] of join "+kind+" 5 [p4 = p0] of (join "+kind+" 4 [TRUE] of (scan t 2), (scan u 2)), (scan o 1)", "c")
		binds(t, "select c from o "+word+" (t "+word+" u on c = a) on c = o.a", "project 1 [p4] of join "+kind+" 5 [p4 = p0] of (scan o 1), (join "+kind+" 4 [p3 = p0] of (scan t 2), (scan u 2))", "c")
		refuses(t, api.ErrName,
			"select 1 from t "+word+" u on b = 1", "select 1 from t "+word+" u on d = 1", "select 1 from t "+word+" u on o.a = 1",
			"select 1 from t "+word+" u on o.a = 1 cross join o", "select 1 from o, t "+word+" u on o.a = 1", "select 1 from t "+word+" t on 1 = 1",
			"select 1 from t "+word+" v on 1 = 1", "select 1 from v "+word+" t on 1 = 1",
		)
		refuses(t, api.ErrUse, "select 1 from t "+word+" u on count(*) = 1", "select 1 from t "+word+" u on max(a) = 1", "select count(*) from t "+word+" u on a = sum(c)")
	}
	binds(t, "select u.c from t, u", "project 1 [p3] of join cross 4 of (scan t 2), (scan u 2)", "c")
	binds(t, "select c from t cross join u", "project 1 [p3] of join cross 4 of (scan t 2), (scan u 2)", "c")
	binds(t, "select * from z, z y, o", "project 1 [p0] of join cross 1 of (join cross 0 of (scan z 0), (scan z 0)), (scan o 1)", "a")
}

// P12.1: a table that stands in both sides of a join is told, by the name it goes by.
func TestTwice(t *testing.T) {
	refuses(t, api.ErrName,
		"select 1 from t, t", "select 1 from t x, u x", "select 1 from t u, u", "select 1 from t, u, t", "select 1 from t, (u, t)",
		"select 1 from (t, u), (o, t)", "select 1 from t join (u join t x on true) on true join o x on true", "select 1 from d, d",
	)
	for other, want := range map[string]api.Errno{"": api.ErrName, "u": api.OK} { // what goes by no name is told apart as well
		if a, _, err := queries(t, one(api.Select{From: join("cross", as("t", ""), as("u", other), api.Expr{})}), tables()); err != want {
			t.Errorf("%q: got %s, %d", other, told(a), err)
		}
	}
	binds(t, "select 1 from t, t x", "project 1 [1] of join cross 4 of (scan t 2), (scan t 2)", "")
	binds(t, "select 1 from t u, u t", "project 1 [1] of join cross 4 of (scan t 2), (scan u 2)", "")
	binds(t, "select 1 from (t, u), (t x, u y)", "project 1 [1] of join cross 8 of (join cross 4 of (scan t 2), (scan u 2)), (join cross 4 of (scan t 2), (scan u 2))", "")
}

// P12.1: a Star tells all columns, or those of a table.
func TestStars(t *testing.T) {
	from := " of join cross 6 of (join cross 4 of (scan t 2), (scan u 2)), (scan t 2)"
	binds(t, "select * from t, u, t x", "project 6 [p0; p1; p2; p3; p4; p5]"+from, "a", "b", "b", "c", "a", "b")
	binds(t, "select t.* from t, u, t x", "project 2 [p0; p1]"+from, "a", "b")
	binds(t, "select u.* from t, u, t x", "project 2 [p2; p3]"+from, "b", "c")
	binds(t, "select x.*, c n, u.*, x.a from t, u, t x", "project 6 [p4; p5; p3; p2; p3; p4]"+from, "a", "b", "n", "b", "c", "a")
	binds(t, "select d.* from o, d", "project 3 [p1; p2; p3] of join cross 4 of (scan o 1), (scan d 3)", "a", "a", "b")
	refuses(t, api.ErrName,
		"select x.* from t", "select t.* from t x", "select t.*, u.* from t", "select v.*", "select z.* from z", "select t.*, z.* from t, z",
		"select a, x.* from t", "select x.*, c from t",
	)
}

// P12.1: an item's name is As; else a col's; else empty.
func TestNames(t *testing.T) {
	binds(t, "select a, t.b, a as b, b a, a + 1, a + 1 c, -a, 'a', f(a), null n, (a), (t.a) x from t", "project 12 [p0; p1; p0; p1; p0 + 1; p0 + 1; -(p0); 'a'; f(p0); NULL; p0; p0] of scan t 2", "a", "b", "b", "a", "", "c", "", "", "", "n", "a", "x")
	binds(t, "select b, t.b, b n, b + 1, count(*), count(*) m, max(b) from t group by b, t.b", "project 7 [p0; p1; p0; p0 + 1; p2; p2; p3] of group 4 [p1; p1; count(*); max(p1)] of scan t 2", "b", "b", "n", "", "", "m", "")
	binds(t, "select distinct a n from t union select c from u", "put union 1 of (distinct 1 of project 1 [p0] of scan t 2), (project 1 [p1] of scan u 2)", "n")
}

// P12.1: a filter with Where, ahead of what else is done.
func TestWhere(t *testing.T) {
	binds(t, "select a from t where b = 1", "project 1 [p0] of filter 2 [p1 = 1] of scan t 2", "a")
	binds(t, "select a from t, u where c = a and t.b is null", "project 1 [p0] of filter 4 [(p3 = p0) AND (p1 IS NULL)] of join cross 4 of (scan t 2), (scan u 2)", "a")
	binds(t, "select count(*) from t where null", "project 1 [p0] of group 1 [count(*)] of filter 2 [NULL] of scan t 2", "")
	binds(t, "select b from t where b = 1 group by b", "project 1 [p0] of group 1 [p1] of filter 2 [p1 = 1] of scan t 2", "b")
	refuses(t, api.ErrName, "select a from t where c = 1", "select a n from t where n = 1", "select a from t where t.a = x.a")
	refuses(t, api.ErrUse, "select a from t where count(*) = 1", "select b from t where max(a) = 1 group by b", "select a from t where not f(1, sum(b))")
}

// P12.1: distinct behind the items, sort and limit behind all.
func TestBehind(t *testing.T) {
	binds(t, "select distinct a from t", "distinct 1 of project 1 [p0] of scan t 2", "a")
	binds(t, "select distinct b, count(*) from t group by b", "distinct 2 of project 2 [p0; p1] of group 2 [p1; count(*)] of scan t 2", "b", "")
	binds(t, "select all a from t limit 3", "limit 1 [3 -1] of project 1 [p0] of scan t 2", "a")
	binds(t, "select a from t limit 0", "limit 1 [0 -1] of project 1 [p0] of scan t 2", "a")
	binds(t, "select a from t limit 0 offset 0", "limit 1 [0 0] of project 1 [p0] of scan t 2", "a")
	binds(t, "select distinct a from t order by a desc limit 9223372036854775807 offset 7", "limit 1 [9223372036854775807 7] of sort 1 [p0 desc] of distinct 1 of project 1 [p0] of scan t 2", "a")
	for _, n := range []int64{least, -2, -1, 0, 1, most} {
		for _, off := range []int64{least, -2, -1, 0, 1, most} {
			q := asked("select a from t")
			q.Limit, q.Offset = n, off
			a, _, err := queries(t, q, tables())
			if n < 0 && off < 0 {
				if told(a) != "project 1 [p0] of scan t 2" || err != api.OK {
					t.Errorf("limit %d, offset %d: got %s, %d", n, off, told(a), err)
				}
			} else if a.Op != "limit" || a.N != n || a.Off != off || a.Wide != 1 || a.L[0].Op != "project" || err != api.OK {
				t.Errorf("limit %d, offset %d: got %s, %d", n, off, told(a), err)
			}
		}
	}
}

// P12.1: a key is a lit Int from 1 to the width, or an expression of the names.
func TestOrder(t *testing.T) {
	const from = " of project 3 [p0; p1; p0 + p1] of scan t 2"
	for s, want := range map[string]string{
		"1": "p0", "2": "p1", "3 desc": "p2 desc", "3, 2 asc, 1 desc": "p2; p1; p0 desc", "a": "p0", "n": "p1", "n desc, a, n": "p1 desc; p0; p1",
		"a + 1": "p0 + 1", "-(1)": "-(1)", "1 + 1": "1 + 1", "n || 'a' desc": "(p1 || 'a') desc", "f(n, 2)": "f(p1, 2)", "a is null, 1": "p0 IS NULL; p0", "(2)": "p1",
	} {
		want = strings.ReplaceAll(want, "(p1 || 'a') desc", "p1 || 'a' desc")
		binds(t, "select a, b n, a + b from t order by "+s, "sort 3 ["+want+"]"+from, "a", "n", "")
	}
	for _, s := range []string{"0", "4", "64", "65", "-1", "9223372036854775807", "-9223372036854775808", "'a'", "'1'", "null", "true", "false", "x'01'", "x''", "1, 4", "n, 0", "'a' desc", "count(*)", "max(n)", "a + sum(n)", "f(min(v))"} {
		refuses(t, api.ErrUse, "select a, b n, a + b from t order by "+s)
	}
	for _, s := range []string{"b", "t.a", "t.n", "m", "a + b", "a, b", "1, b", "n + v", "f(t.a)"} {
		refuses(t, api.ErrName, "select a, b n, a + b from t order by "+s)
	}
	binds(t, "select b + 1 a, a b from t order by a, b", "sort 2 [p0; p1] of project 2 [p1 + 1; p0] of scan t 2", "a", "b")
	binds(t, "select * from t order by b, a", "sort 2 [p1; p0] of project 2 [p0; p1] of scan t 2", "a", "b")
	binds(t, "select a, b n from t group by a, b order by n", "sort 2 [p1] of project 2 [p0; p1] of group 2 [p0; p1] of scan t 2", "a", "n")
	refuses(t, api.ErrName,
		"select a, a from t order by a", "select a, b a from t order by 1, a", "select *, a from t order by a", "select * from t, u order by b",
		"select t.* from t order by t.a", "select b + 1 from t order by b",
	)
	refuses(t, api.ErrUse, "select * from z order by 1", "select * order by 1", "select count(*) from t order by count(*)", "select max(a) from t order by 2")
	binds(t, "select * from z order by f()", "sort 0 [f()] of project 0 of scan z 0")
}

// P12.1: names that are empty are nobody's, though an expression may have a col of that.
func TestOrderEmpty(t *testing.T) {
	for _, s := range []string{"select a + 1, a from t", "select a + 1, b + 1 from t", "select count(*) from t", "select 1 union select 2"} {
		q := asked(s)
		q.Order = []api.Key{{E: col("")}}
		if a, _, err := queries(t, q, tables()); err != api.ErrName {
			t.Errorf("%q: got %s, %d", s, told(a), err)
		}
	}
}

// P12.1: queries that are put together are as wide, and have the first one's names.
func TestPuts(t *testing.T) {
	for kind, word := range map[string]string{"union": "union", "unionall": "union all", "intersect": "intersect", "except": "except"} {
		binds(t, "select a from t "+word+" select c from u", "put "+kind+" 1 of (project 1 [p0] of scan t 2), (project 1 [p1] of scan u 2)", "a")
		binds(t, "select * from t "+word+" select c + 1, 2 n from u order by a, 2 desc limit 3 offset 1", "limit 2 [3 1] of sort 2 [p0; p1 desc] of put "+kind+" 2 of (project 2 [p0; p1] of scan t 2), (project 2 [p1 + 1; 2] of scan u 2)", "a", "b")
		binds(t, "select 1 "+word+" select 2 n "+word+" select a from t", "put "+kind+" 1 of (put "+kind+" 1 of (project 1 [1] of one 0), (project 1 [2] of one 0)), (project 1 [p0] of scan t 2)", "")
		binds(t, "select a from t "+word+" select distinct c from u where c = 1", "put "+kind+" 1 of (project 1 [p0] of scan t 2), (distinct 1 of project 1 [p1] of filter 2 [p1 = 1] of scan u 2)", "a")
		binds(t, "select * "+word+" select * from z", "put "+kind+" 0 of (project 0 of one 0), (project 0 of scan z 0)")
		refuses(t, api.ErrUse,
			"select a from t "+word+" select * from t", "select 1, 2 "+word+" select 1", "select 1 "+word+" select 2 "+word+" select 3, 4",
			"select 1 "+word+" select 2, 3 "+word+" select 4", "select * "+word+" select 1", "select a from t "+word+" select c from u order by 2",
		)
		refuses(t, api.ErrName,
			"select a from t "+word+" select c n from u order by n", "select a + 1 from t "+word+" select a from t order by a",
			"select a, a from t "+word+" select a, b from t order by a", "select a from t "+word+" select c from u order by c",
		)
	}
}

// P12.1: a query that is put together with another one may have an order and a limit of its own.
func TestPutParts(t *testing.T) {
	a, b := asked("select b, a from t order by a limit 1"), asked("select * from u order by 2 desc limit 2 offset 3")
	for _, kind := range puts() {
		q := put(kind, a, put(kind, b, a))
		q.Order = []api.Key{{E: col("a")}}
		got, names, err := queries(t, q, tables())
		left := "limit 2 [1 -1] of sort 2 [p1] of project 2 [p1; p0] of scan t 2"
		right := "limit 2 [2 3] of sort 2 [p1 desc] of project 2 [p0; p1] of scan u 2"
		want := "sort 2 [p1] of put " + kind + " 2 of (" + left + "), (put " + kind + " 2 of (" + right + "), (" + left + "))"
		if told(got) != want || strings.Join(names, ",") != "b,a" || err != api.OK {
			t.Errorf("got %s, %q, %d, want %s", told(got), names, err, want)
		}
	}
}

// R1: what is no query ends, and has an error, or is algebra that may be.
func TestOdd(t *testing.T) {
	few := one(api.Select{Items: items(lit(num(1)))})
	for _, q := range []api.Query{{}, {Op: "Select"}, {Op: "insert"}, {Op: "put"}, {Op: "minus", L: []api.Query{few, few}}, {Op: "union"}, put("UNION", few, few), {Op: "union", L: []api.Query{few}}, {Op: "except", L: []api.Query{few, few, few}}, put("intersect", few, api.Query{}), one(api.Select{From: api.From{Join: "outer", L: []api.From{table("t"), table("u")}}}), one(api.Select{From: api.From{Join: "inner"}}), one(api.Select{From: api.From{Join: "cross", L: []api.From{table("t")}}}), one(api.Select{From: join("Cross", table("t"), table("u"), lit(yes()))}), one(api.Select{From: join("left", table("t"), table("u"), api.Expr{})}), one(api.Select{Items: []api.Item{{}}}), one(api.Select{Items: items(at(0))}), one(api.Select{Items: items(lit(api.Value{Kind: 7}))}), one(api.Select{Items: items(op("and"))}), one(api.Select{Items: items(at(1)), Group: []api.Expr{lit(num(1))}}), one(api.Select{Group: []api.Expr{{}}}), one(api.Select{Having: op("x")}), one(api.Select{Where: op("not")})} {
		if a, _, err := queries(t, q, tables()); err != api.ErrArg {
			t.Errorf("%s: got %s, %d", shown(q), told(a), err)
		}
	}
	deep := nested("neg", 40, lit(num(1)))
	for _, q := range []api.Query{one(api.Select{Items: items(deep)}), one(api.Select{Where: deep}), one(api.Select{Having: deep}), one(api.Select{Group: []api.Expr{deep}}), one(api.Select{Items: items(call("max", deep))}), one(api.Select{Items: items(nested("neg", 40, call("count", star())))}), one(api.Select{From: join("full", table("t"), table("u"), deep)}), {Op: "select", Order: []api.Key{{E: deep}}}} {
		if a, _, err := queries(t, q, tables()); err != api.ErrDeep {
			t.Errorf("%s: got %s, %d", shown(q), told(a), err)
		}
	}
	for _, e := range []api.Expr{star(), op("neg", star()), call("f", star()), call("sum", star()), call("count", star(), star()), call("count", call("f", star())), call("count", api.Expr{Op: "star", Name: "a"})} {
		for _, s := range []api.Select{{Items: items(e)}, {Where: e}, {Group: []api.Expr{e}}, {Having: e}, {From: join("left", table("t"), table("u"), e)}} {
			if a, _, err := queries(t, one(s), tables()); err != api.ErrUse {
				t.Errorf("%s: got %s, %d", shown(s), told(a), err)
			}
		}
	}
	// An error behind a star is not met.
	if a, _, err := queries(t, one(api.Select{Items: items(call("f", star()), call("sum", col("n")))}), tables()); err != api.ErrUse {
		t.Errorf("got %s, %d", told(a), err)
	}
	if a, names, err := queries(t, api.Query{Op: "select"}, nil); told(a) != "limit 0 [0 0] of project 0 of one 0" || len(names) > 0 || err != api.OK {
		t.Errorf("got %s, %q, %d", told(a), names, err)
	}
}

// R6: what is nested 2^16 levels deep ends.
func TestNested(t *testing.T) {
	const levels = 1 << 16
	q, from, e := one(api.Select{}), api.From{}, col("a")
	for range levels - 1 {
		q = api.Query{Op: "union", L: []api.Query{q, one(api.Select{})}, Limit: 5}
		from = join("inner", from, api.From{}, lit(yes()))
		e = op("neg", e)
	}
	for _, ask := range []struct {
		q    api.Query
		want api.Errno
	}{
		{q, api.OK}, {one(api.Select{From: from}), api.OK},
		{one(api.Select{Items: items(e), From: table("t")}), api.ErrDeep},
		{one(api.Select{Items: items(e), Group: []api.Expr{e}, From: table("t")}), api.ErrDeep},
		{one(api.Select{Items: items(e), Group: []api.Expr{nested("neg", 39, col("a"))}, From: table("t")}), api.ErrDeep},
		{one(api.Select{Items: items(call("max", e)), From: table("t")}), api.ErrDeep},
		{one(api.Select{Items: items(call("max", op("+", e, call("max", e)))), From: table("t")}), api.ErrUse},
	} {
		a, _, err := bind.Query(ask.q, tables())
		if err != ask.want || bind.Check(a, tables()) != (err == api.OK) {
			t.Errorf("got %s, %d, want %d", a.Op, err, ask.want)
		}
	}
}
