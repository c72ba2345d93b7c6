package bind_test

import (
	"testing"

	"boscage/api"
)

// P12.1: a group is made of a Group, a Having, or an aggregate of an item's; nothing else makes one.
func TestGroupMade(t *testing.T) {
	binds(t, "select b from t group by b", "project 1 [p0] of group 1 [p1] of scan t 2", "b")
	binds(t, "select 1 from t having true", "project 1 [1] of filter 0 [TRUE] of group 0 of scan t 2", "")
	binds(t, "select 1 having 2 = 1", "project 1 [1] of filter 0 [2 = 1] of group 0 of one 0", "")
	binds(t, "select count(*)", "project 1 [p0] of group 1 [count(*)] of one 0", "")
	for _, name := range aggregates() {
		binds(t, "select "+name+"(b) from t", "project 1 [p0] of group 1 ["+name+"(p1)] of scan t 2", "")
		binds(t, "select 1, f(-"+name+"(b)) n from t", "project 2 [1; f(-(p0))] of group 1 ["+name+"(p1)] of scan t 2", "", "n")
		binds(t, "select 1 from t having "+name+"(b) > 2", "project 1 [1] of filter 1 [p0 > 2] of group 1 ["+name+"(p1)] of scan t 2", "")
		binds(t, "select a "+name+" from t", "project 1 [p0] of scan t 2", name)
		refuses(t, api.ErrName, "select "+name+" from t")
		refuses(t, api.ErrUse,
			"select a from t where "+name+"(a) = 1", "select a from t order by "+name+"(a)", "select a from t group by a, "+name+"(a)",
			"select a, "+name+"(b) from t", "select *, "+name+"(b) from t", "select "+name+"(b), t.* from t", "select "+name+"() from t",
			"select "+name+"(a, b) from t",
		)
	}
	refuses(t, api.ErrUse,
		"select a from t having true", "select * from t having true", "select * from t group by a, b", "select t.* from t group by a, b",
		"select x.* from t group by a",
	)
}

// P12.1: each part that is one of Group's expressions, as it is written, is put as its place; the greatest part first, the first one that is the same.
func TestGroupKeys(t *testing.T) {
	binds(t, "select b, a from t group by a, b", "project 2 [p1; p0] of group 2 [p0; p1] of scan t 2", "b", "a")
	binds(t, "select a + 1 + b, -(a + 1), b from t group by a + 1, b", "project 3 [p0 + p1; -(p0); p1] of group 2 [p0 + 1; p1] of scan t 2", "", "", "b")
	binds(t, "select a + 1, a, a + 2 from t group by a, a + 1", "project 3 [p1; p0; p0 + 2] of group 2 [p0; p0 + 1] of scan t 2", "", "a", "")
	binds(t, "select a from t group by a, b, a", "project 1 [p0] of group 3 [p0; p1; p0] of scan t 2", "a")
	binds(t, "select a, t.a from t group by t.a, a", "project 2 [p1; p0] of group 2 [p0; p0] of scan t 2", "a", "a")
	binds(t, "select 1, 2 + 1, -1, '1' from t group by 1", "project 4 [p0; 2 + p0; -1; '1'] of group 1 [1] of scan t 2", "", "", "", "")
	binds(t, "select a is null, not (a is null) from t group by a is null", "project 2 [p0; NOT p0] of group 1 [p0 IS NULL] of scan t 2", "", "")
	binds(t, "select f(b, 2), coalesce(f(b, 2), b), abs(b) from t group by f(b, 2), b", "project 3 [p0; coalesce(p0, p1); abs(p1)] of group 2 [f(p1, 2); p1] of scan t 2", "", "", "")
	binds(t, "select c from t, u group by c, t.b having t.b > c", "project 1 [p0] of filter 2 [p1 > p0] of group 2 [p3; p1] of join cross 4 of (scan t 2), (scan u 2)", "c")
	refuses(t, api.ErrUse,
		"select t.a from t group by a", "select a from t group by t.a", "select a from t group by b", "select a + 1 from t group by a + 2",
		"select 1 + a from t group by a + 1", "select a + 1 + b from t group by a + 1", "select b from t group by a having a = 1",
		"select a from t group by a having b = 1", "select a from t group by a having t.a = 1", "select n from t group by a",
		"select a n from t group by a having n = 1", "select (a + b) + 1 from t group by b + 1, a", "select v.a from t group by a",
	)
	refuses(t, api.ErrName,
		"select a from t group by n", "select a n from t group by n", "select a from t group by x.a", "select b from t, u group by b", "select 1 group by a",
	)
}

// P12.1: aggregates stand behind the keys, each once, as its bound part tells; Having's behind the items'.
func TestGroupAggs(t *testing.T) {
	binds(t, "select b, count(*), sum(a) + count(*), max(a) from t group by b having max(a) > b and min(b) = 1 and sum(a) = 2", "project 4 [p0; p1; p2 + p1; p3] of filter 5 [((p3 > p0) AND (p4 = 1)) AND (p2 = 2)] of group 5 [p1; count(*); sum(p0); max(p0); min(p1)] of scan t 2", "b", "", "", "")
	binds(t, "select count(a), count(t.a), sum(a), count((a)), count(*), count(b), count(*) from t", "project 7 [p0; p0; p1; p0; p2; p3; p2] of group 4 [count(p0); sum(p0); count(*); count(p1)] of scan t 2", "", "", "", "", "", "", "")
	binds(t, "select sum(a + 1), sum(1 + a), sum(1), max(1), sum('1'), sum(a + 1) from t", "project 6 [p0; p1; p2; p3; p4; p0] of group 5 [sum(p0 + 1); sum(1 + p0); sum(1); max(1); sum('1')] of scan t 2", "", "", "", "", "", "")
	binds(t, "select 1 from t group by a having count(*) > 1", "project 1 [1] of filter 2 [p1 > 1] of group 2 [p0; count(*)] of scan t 2", "")
	binds(t, "select f(sum(a), max(b), sum(a)) from t", "project 1 [f(p0, p1, p0)] of group 2 [sum(p0); max(p1)] of scan t 2", "")
	binds(t, "select min(a) from t group by a, b having b in (max(a), 1, min(a))", "project 1 [p2] of filter 4 [p1 IN (p3, 1, p2)] of group 4 [p0; p1; min(p0); max(p0)] of scan t 2", "")
	binds(t, "select max(u.b || t.b) from t join u on a = c where a > 1", "project 1 [p0] of group 1 [max(p2 || p1)] of filter 4 [p0 > 1] of join inner 4 [p0 = p3] of (scan t 2), (scan u 2)", "")
}

// P12.1: an aggregate's part is of the scope ahead of the group, whatever the keys are.
func TestGroupPart(t *testing.T) {
	binds(t, "select sum(b), b, sum(b + 1), sum(1) from t group by b, b + 1, 1", "project 4 [p3; p0; p4; p5] of group 6 [p1; p1 + 1; 1; sum(p1); sum(p1 + 1); sum(1)] of scan t 2", "", "b", "", "")
	binds(t, "select sum(a), sum(t.a) from t group by b", "project 2 [p1; p1] of group 2 [p1; sum(p0)] of scan t 2", "", "")
	refuses(t, api.ErrName,
		"select sum(c) from t", "select sum(t.b), count(b) from t, u", "select b n, sum(n) from t group by b", "select count(x.a) from t",
		"select a from t group by a having sum(c) = 1",
	)
	refuses(t, api.ErrUse,
		"select sum(count(*)) from t", "select sum(a + max(b)) from t", "select max(max(a)) from t", "select count(f(-count(a))) from t",
		"select a from t group by a having max(min(a)) = 1",
	)
}

// P12.1: of one expression what is met first is told; a whole ahead of its parts, and these from the left.
func TestErrorsFromLeft(t *testing.T) {
	for s, want := range map[string]api.Errno{
		"select n + count(*) from t where true":            api.ErrUse,
		"select a from t where n + count(*)":               api.ErrName,
		"select a from t where count(*) + n":               api.ErrUse,
		"select a from t where max(n) = 1":                 api.ErrUse,
		"select a from t where f(max(a), n)":               api.ErrUse,
		"select a from t where f(n, max(a))":               api.ErrName,
		"select sum(n) + a from t":                         api.ErrName,
		"select a + sum(n) from t":                         api.ErrUse,
		"select sum(n), a from t":                          api.ErrName,
		"select a, sum(n) from t":                          api.ErrUse,
		"select sum(n, 1) from t":                          api.ErrUse,
		"select sum(n + sum(a)) from t":                    api.ErrUse,
		"select sum(sum(n)) from t":                        api.ErrUse,
		"select sum(n) + sum(sum(a)) from t":               api.ErrName,
		"select sum(sum(a)) + sum(n) from t":               api.ErrUse,
		"select n, sum(n) from t":                          api.ErrUse,
		"select *, sum(n) from t":                          api.ErrUse,
		"select sum(n), * from t":                          api.ErrName,
		"select sum(a), v.* from t":                        api.ErrUse,
		"select sum(n), b from t group by b having a = 1":  api.ErrName,
		"select a from t group by b having sum(n) = 1":     api.ErrUse,
		"select b from t group by b having sum(n) + a = 1": api.ErrName,
		"select b from t group by b having a + sum(n) = 1": api.ErrUse,
		"select a from t group by n, count(*)":             api.ErrName,
		"select a from t group by count(*), n":             api.ErrUse,
		"select * from t group by n":                       api.ErrName,
		"select sum() from t group by n":                   api.ErrName,
		"select sum(n) from t group by max(a)":             api.ErrUse,
	} {
		refuses(t, want, s)
	}
}

// P12.1: of a query what is met first is told: the from's from the left, then Where, the group, the items, Order.
func TestErrorsInOrder(t *testing.T) {
	for s, want := range map[string]api.Errno{
		"select count() from v":                                 api.ErrName,
		"select n from t where max(a) = 1":                      api.ErrUse,
		"select max() from t where n = 1":                       api.ErrName,
		"select 1 from t join u on max(a) = 1 join v on true":   api.ErrUse,
		"select 1 from v join (t join u on max(a) = 1) on true": api.ErrName,
		"select 1 from (t join u on max(a) = 1) join v on true": api.ErrUse,
		"select 1 from t join t on max(a) = 1":                  api.ErrName,
		"select 1 from t join u on n = 1 where max(a) = 1":      api.ErrName,
		"select 1 from t join u on max(a) = 1 where n = 1":      api.ErrUse,
		"select n from t where count(*) = 1 group by n":         api.ErrUse,
		"select a from t where n = 1 group by count(*)":         api.ErrName,
		"select n from t group by count(*)":                     api.ErrUse,
		"select max() from t group by n":                        api.ErrName,
		"select a from t group by b having n = sum(n)":          api.ErrUse,
		"select sum(n) from t having count(a, b)":               api.ErrName,
		"select n from t order by count(*)":                     api.ErrName,
		"select n from t order by 7":                            api.ErrName,
		"select a from t order by n, 7":                         api.ErrName,
		"select a from t order by 7, n":                         api.ErrUse,
		"select count(n) from t order by 0":                     api.ErrName,
		"select distinct n from t order by 0":                   api.ErrName,
		"select n from t union select 1, 2":                     api.ErrName,
		"select a, b from t union select n from u":              api.ErrName,
		"select a, b from t union select count() from u":        api.ErrUse,
		"select count() from t union select n from t":           api.ErrUse,
		"select n from t union select count() from t":           api.ErrName,
		"select 1 union select 2, 3 union select n":             api.ErrUse,
		"select 1 union select 2, 3 order by n":                 api.ErrUse,
		"select 1 union select 2 order by n":                    api.ErrName,
	} {
		refuses(t, want, s)
	}
}
