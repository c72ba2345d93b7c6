package bind_test

import (
	"slices"
	"strings"
	"testing"

	"boscage/api"
	"boscage/rows"
	"boscage/value"
)

// run does what algebra says, over some tables' rows.
func run(a api.Alg, db map[string][]api.Row) ([]api.Row, api.Errno) {
	var l [][]api.Row
	for _, x := range a.L {
		got, err := run(x, db)
		if err != api.OK {
			return nil, err
		}
		l = append(l, got)
	}
	switch a.Op {
	case "scan":
		return db[a.Table], api.OK
	case "one":
		return []api.Row{{}}, api.OK
	case "filter":
		return rows.Filter(l[0], a.E)
	case "project":
		return rows.Project(l[0], a.Es)
	case "join":
		return rows.Join(a.Kind, l[0], l[1], a.L[0].Wide, a.L[1].Wide, a.E)
	case "group":
		return rows.Group(l[0], a.Es, a.Aggs)
	case "distinct":
		return rows.Distinct(l[0]), api.OK
	case "put":
		return rows.Put(a.Kind, l[0], l[1])
	case "sort":
		return rows.Sort(l[0], a.Keys)
	}
	return rows.Limit(l[0], a.N, a.Off), api.OK
}

// P12.1: the algebra's rows are those that SQL's words mean.
func TestRun(t *testing.T) {
	db := map[string][]api.Row{
		"t": {{num(1), num(10)}, {num(2), null()}, {num(3), num(10)}, {num(4), num(20)}},
		"u": {{text("x"), num(1)}, {text("y"), num(3)}, {text("z"), num(3)}, {null(), num(9)}},
		"o": {{num(2)}, {num(5)}},
	}
	for s, want := range map[string]string{
		"select a from t where b is null":                                                     "(2)",
		"select b = 10 n from t":                                                              "(TRUE) (NULL) (TRUE) (FALSE)",
		"select t.a, u.b from t left join u on t.a = c":                                       "(1, 'x') (2, NULL) (3, 'y') (3, 'z') (4, NULL)",
		"select u.b, a from t right join u on t.a = c order by 2 desc, 1":                     "('y', 3) ('z', 3) ('x', 1) (NULL, NULL)",
		"select b, count(*) from t group by b order by 1 desc":                                "(20, 1) (10, 2) (NULL, 1)",
		"select b + 1, sum(a) * 2 n from t group by b + 1 having sum(a) > 2 or b + 1 is null": "(11, 8) (NULL, 4) (21, 8)",
		"select a from t union select a from o order by a desc limit 3 offset 1":              "(4) (3) (2)",
		"select a from t intersect select o.a from o":                                         "(2)",
		"select a from o except select a from t union all select 5":                           "(5) (5)",
		"select count(*), count(b), min(b), max(t.a), sum(t.a) from t, o where t.a < o.a":     "(5, 4, 10, 4, 11)",
		"select distinct b from t order by b":                                                 "(NULL) (10) (20)",
		"select x.a, y.a from t x join t y on x.b = y.b and x.a < y.a":                        "(1, 3)",
		"select o.*, x.* from o full join t x on o.a = x.a where o.a is null or x.a is null":  "(5, NULL, NULL) (NULL, 1, 10) (NULL, 3, 10) (NULL, 4, 20)",
		"select count(*) from t where a > 9":                                                  "(0)",
		"select max(a) from t where a > 9 group by b":                                         "",
		"select 7, 'it''s' where 1 = 1":                                                       "(7, 'it''s')",
		"select 7 having count(*) > 1":                                                        "",
	} {
		a, _, err := queries(t, asked(s), tables())
		if err != api.OK {
			t.Errorf("%q: got %d", s, err)
			continue
		}
		l, e := run(a, db)
		var texts []string
		for _, r := range l {
			x, _ := value.RowText(r)
			texts = append(texts, x)
		}
		if got := strings.Join(texts, " "); got != want || e != api.OK || slices.ContainsFunc(l, func(r api.Row) bool { return len(r) != a.Wide }) {
			t.Errorf("%q: got %s, %d, want %s", s, got, e, want)
		}
	}
}
