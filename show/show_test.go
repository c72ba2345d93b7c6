package show_test

import (
	"math"
	"strings"
	"testing"

	"boscage/api"
	"boscage/show"
	"boscage/stmt"
)

// P9.1: INSERT, UPDATE, DELETE.
func TestTextChange(t *testing.T) {
	rewrites(t, map[string]string{
		"insert into t(a,b) values(1,2),(3,4)":                           "INSERT INTO t (a, b) VALUES (1, 2), (3, 4)",
		"Insert  Into\nT\t(A) Values ( NULL ) ;":                         "INSERT INTO t (a) VALUES (NULL)",
		"insert into t values (1)":                                       "INSERT INTO t VALUES (1)",
		"insert into t values (a+1,-b,- 5,'it''s',x'0aFF',true),(f(),a)": "INSERT INTO t VALUES (a + 1, -(b), -5, 'it''s', x'0aff', TRUE), (f(), a)",
		"insert into t values (1),(2,3),(4)":                             "INSERT INTO t VALUES (1), (2, 3), (4)",
		"insert into t values ((1),((a)),(a or b))":                      "INSERT INTO t VALUES (1, a, a OR b)",
		"insert into t (a,a) values (1)":                                 "INSERT INTO t (a, a) VALUES (1)",
		"update t set a=1":                                               "UPDATE t SET a = 1",
		"update t set a=1,b=2 where c":                                   "UPDATE t SET a = 1, b = 2 WHERE c",
		"UPDATE T SET A=B=C WHERE A IS NULL AND B<C":                     "UPDATE t SET a = b = c WHERE (a IS NULL) AND (b < c)",
		"update t set a=a+1,b=not c where count(*)>1":                    "UPDATE t SET a = a + 1, b = NOT c WHERE count(*) > 1",
		"update t set a = (b in (1,2)) where(a)":                         "UPDATE t SET a = b IN (1, 2) WHERE a",
		"delete from t":                                                  "DELETE FROM t",
		"delete from t where c":                                          "DELETE FROM t WHERE c",
		"DELETE FROM T WHERE T.A not between 1 and 2 --":                 "DELETE FROM t WHERE NOT (t.a BETWEEN 1 AND 2)",
		"delete from t where null":                                       "DELETE FROM t WHERE NULL",
	})
	writes(t, api.Stmt{Op: "insert", Table: "t", Rows: [][]api.Expr{{num(1), num(2)}, {num(-3)}}}, "INSERT INTO t VALUES (1, 2), (-3)")
	writes(t, api.Stmt{Op: "insert", Table: "t", Names: []string{}, Rows: [][]api.Expr{{num(1)}}}, "INSERT INTO t VALUES (1)")
	writes(t, api.Stmt{Op: "update", Table: "t", Sets: []api.Set{{Name: "a", E: num(math.MinInt64)}}, Where: num(0)}, "UPDATE t SET a = -9223372036854775808 WHERE 0")
	writes(t, api.Stmt{Op: "delete", Table: "t", Where: col("c")}, "DELETE FROM t WHERE c")
}

// P9.1: CREATE, DROP, BEGIN, COMMIT, ROLLBACK.
func TestTextMade(t *testing.T) {
	rewrites(t, map[string]string{
		"create table t(a int not null unique primary key,b text)":  "CREATE TABLE t (a INT NOT NULL UNIQUE PRIMARY KEY, b TEXT)",
		"create table t(a int primary key unique not null, b text)": "CREATE TABLE t (a INT NOT NULL UNIQUE PRIMARY KEY, b TEXT)",
		"create table t (a int)":                                    "CREATE TABLE t (a INT)",
		"create table t (a bool, b blob, c text, d int, a int)":     "CREATE TABLE t (a BOOL, b BLOB, c TEXT, d INT, a INT)",
		"create table t (a int not null, b int unique, c int primary key, d int unique not null, e int primary key not null, f int primary key unique)": "CREATE TABLE t (a INT NOT NULL, b INT UNIQUE, c INT PRIMARY KEY, d INT NOT NULL UNIQUE, e INT NOT NULL PRIMARY KEY, f INT UNIQUE PRIMARY KEY)",
		"drop table T":                     "DROP TABLE t",
		"drop index I;":                    "DROP INDEX i",
		"create index i on t(a)":           "CREATE INDEX i ON t (a)",
		"create index i on t(a,b,a)":       "CREATE INDEX i ON t (a, b, a)",
		"create unique index i on t (a,b)": "CREATE UNIQUE INDEX i ON t (a, b)",
		"begin":                            "BEGIN",
		"Commit ;":                         "COMMIT",
		"-- x\nrollback":                   "ROLLBACK",
	})
	for i := range 32 {
		c := api.ColDef{Name: "c", Type: 1 + i/8, NotNull: i&1 != 0, Unique: i&2 != 0, Primary: i&4 != 0}
		want := "CREATE TABLE t (c " + [...]string{"BOOL", "INT", "TEXT", "BLOB"}[i/8]
		for j, words := range []string{" NOT NULL", " UNIQUE", " PRIMARY KEY"} {
			want += strings.Repeat(words, i>>j&1)
		}
		writes(t, api.Stmt{Op: "create", Table: "t", Cols: []api.ColDef{c}}, want+")")
	}
	writes(t, api.Stmt{Op: "drop", Table: "t"}, "DROP TABLE t")
	writes(t, api.Stmt{Op: "unindex", Index: "i"}, "DROP INDEX i")
	writes(t, api.Stmt{Op: "index", Table: "t", Index: "i", Names: []string{"a", "b"}}, "CREATE INDEX i ON t (a, b)")
	writes(t, api.Stmt{Op: "index", Table: "t", Index: "i", Names: []string{"a"}, Unique: true}, "CREATE UNIQUE INDEX i ON t (a)")
	for _, op := range []string{"begin", "commit", "rollback"} {
		writes(t, api.Stmt{Op: op}, strings.ToUpper(op))
	}
}

// P9.2: a select.
func TestQuerySelect(t *testing.T) {
	rewrites(t, map[string]string{
		"select 1":                                      "SELECT 1",
		"select all a":                                  "SELECT a",
		"select distinct a,b from t":                    "SELECT DISTINCT a, b FROM t",
		"select * from t":                               "SELECT * FROM t",
		"select t.*":                                    "SELECT t.*",
		"select distinct*,t . *,* from t":               "SELECT DISTINCT *, t.*, * FROM t",
		"select a n,b as m,t.a,1+2 three":               "SELECT a AS n, b AS m, t.a, 1 + 2 AS three",
		"select a a":                                    "SELECT a AS a",
		"select count(*) n, sum(distinct_)":             "SELECT count(*) AS n, sum(distinct_)",
		"select a where b":                              "SELECT a WHERE b",
		"select a from t where a=1 or b":                "SELECT a FROM t WHERE (a = 1) OR b",
		"select a group by b":                           "SELECT a GROUP BY b",
		"select a group by b,1,a+b":                     "SELECT a GROUP BY b, 1, a + b",
		"select a having b":                             "SELECT a HAVING b",
		"select a from t where b group by c,d having e": "SELECT a FROM t WHERE b GROUP BY c, d HAVING e",
		"SELECT DISTINCT A X,T.* FROM T WHERE NOT B GROUP BY C HAVING D;": "SELECT DISTINCT a AS x, t.* FROM t WHERE NOT b GROUP BY c HAVING d",
	})
	a, b := col("a"), col("b")
	for want, s := range map[string]api.Select{
		"SELECT a":                     {Items: items(a)},
		"SELECT a, b":                  {Items: items(a, b)},
		"SELECT DISTINCT a":            {Distinct: true, Items: items(a)},
		"SELECT *, t.*, a AS n":        {Items: []api.Item{{Star: true}, {Star: true, Table: "t"}, {E: a, As: "n"}}},
		"SELECT a FROM t WHERE b":      {Items: items(a), From: table("t"), Where: b},
		"SELECT a FROM t CROSS JOIN u": {Items: items(a), From: cross(table("t"), table("u"))},
		"SELECT a GROUP BY b, a":       {Items: items(a), Group: []api.Expr{b, a}},
		"SELECT a HAVING b":            {Items: items(a), Group: []api.Expr{}, Having: b},
	} {
		writes(t, asked(one(s)), want)
	}
}

// P9.2: queries that are put together.
func TestQueryPut(t *testing.T) {
	rewrites(t, map[string]string{
		"select a union select b":     "SELECT a UNION SELECT b",
		"select a union all select b": "SELECT a UNION ALL SELECT b",
		"select a intersect select b": "SELECT a INTERSECT SELECT b",
		"select a except select b":    "SELECT a EXCEPT SELECT b",
		"select a union select b except select c union all select d intersect select e":    "SELECT a UNION SELECT b EXCEPT SELECT c UNION ALL SELECT d INTERSECT SELECT e",
		"select distinct a from t where b union all select distinct c group by d having e": "SELECT DISTINCT a FROM t WHERE b UNION ALL SELECT DISTINCT c GROUP BY d HAVING e",
		"select a union select b order by 1 limit 2 offset 3":                              "SELECT a UNION SELECT b ORDER BY 1 LIMIT 2 OFFSET 3",
	})
	a, b, c := one(api.Select{Items: items(num(1))}), one(api.Select{Items: items(num(2))}), one(api.Select{Items: items(num(3))})
	words := map[string]string{"union": " UNION ", "unionall": " UNION ALL ", "intersect": " INTERSECT ", "except": " EXCEPT "}
	for op, word := range words {
		writes(t, asked(put(op, a, b)), "SELECT 1"+word+"SELECT 2")
		for other, behind := range words {
			writes(t, asked(put(other, put(op, a, b), c)), "SELECT 1"+word+"SELECT 2"+behind+"SELECT 3")
		}
	}
}

// P9.2: ORDER BY, LIMIT, OFFSET, each if there is one.
func TestQueryEnds(t *testing.T) {
	rewrites(t, map[string]string{
		"select a order by b":                                 "SELECT a ORDER BY b",
		"select a order by b asc,c desc,1":                    "SELECT a ORDER BY b, c DESC, 1",
		"select a order by b desc":                            "SELECT a ORDER BY b DESC",
		"select a order by a or b desc,- 1":                   "SELECT a ORDER BY a OR b DESC, -1",
		"select a limit 0":                                    "SELECT a LIMIT 0",
		"select a limit 0 offset 0":                           "SELECT a LIMIT 0 OFFSET 0",
		"select a limit 007 offset 1":                         "SELECT a LIMIT 7 OFFSET 1",
		"select a limit 9223372036854775807":                  "SELECT a LIMIT 9223372036854775807",
		"select a having b order by c limit 1":                "SELECT a HAVING b ORDER BY c LIMIT 1",
		"select a from t order by 1 limit 2":                  "SELECT a FROM t ORDER BY 1 LIMIT 2",
		"select a from t x order by 1 desc limit 2 offset 10": "SELECT a FROM t AS x ORDER BY 1 DESC LIMIT 2 OFFSET 10",
	})
	q := one(api.Select{Items: items(col("a"))})
	for _, limit := range []int64{-1, 0, 1, math.MaxInt64} {
		q.Limit = limit
		want := map[int64]string{-1: "SELECT a", 0: "SELECT a LIMIT 0", 1: "SELECT a LIMIT 1", math.MaxInt64: "SELECT a LIMIT 9223372036854775807"}[limit]
		writes(t, asked(q), want)
		if limit >= 0 {
			q.Offset = limit
			writes(t, asked(q), want+strings.Replace(strings.TrimPrefix(want, "SELECT a"), "LIMIT", "OFFSET", 1))
			q.Offset = -1
		}
	}
}

// P9.3: tables and joins.
func TestFrom(t *testing.T) {
	t1, u, v, w := table("t"), table("u"), table("v"), table("w")
	on, other := col("b"), ex("c = 1")
	for want, f := range map[string]api.From{
		"t":                               t1,
		"t AS x":                          as("t", "x"),
		"u AS t":                          as("u", "t"),
		"t CROSS JOIN u":                  cross(t1, u),
		"t JOIN u ON b":                   join("inner", t1, u, on),
		"t LEFT JOIN u ON b":              join("left", t1, u, on),
		"t RIGHT JOIN u ON b":             join("right", t1, u, on),
		"t FULL JOIN u ON b":              join("full", t1, u, on),
		"t JOIN u ON c = 1":               join("inner", t1, u, other),
		"t AS x JOIN u AS y ON x.a = y.a": join("inner", as("t", "x"), as("u", "y"), ex("x.a = y.a")),
		"t CROSS JOIN u CROSS JOIN v":     cross(cross(t1, u), v),
		"t CROSS JOIN (u CROSS JOIN v)":   cross(t1, cross(u, v)),
		"t CROSS JOIN u CROSS JOIN (v CROSS JOIN w)":                        cross(cross(t1, u), cross(v, w)),
		"t JOIN u ON b LEFT JOIN v ON c = 1":                                join("left", join("inner", t1, u, on), v, other),
		"t LEFT JOIN (u JOIN v ON c = 1) ON b":                              join("left", t1, join("inner", u, v, other), on),
		"t RIGHT JOIN (u AS x CROSS JOIN v) ON b":                           join("right", t1, cross(as("u", "x"), v), on),
		"t JOIN u ON b CROSS JOIN v":                                        cross(join("inner", t1, u, on), v),
		"t CROSS JOIN (u FULL JOIN v ON b)":                                 cross(t1, join("full", u, v, on)),
		"t CROSS JOIN u RIGHT JOIN (v CROSS JOIN (w JOIN t ON b)) ON c = 1": join("right", cross(t1, u), cross(v, join("inner", w, t1, on)), other),
	} {
		if got := show.From(f); got != want {
			t.Errorf("got %q, want %q", got, want)
		}
		writes(t, selectedFrom(f), "SELECT a FROM "+want)
	}
	rewrites(t, map[string]string{
		"select a from t x,(u join v on 1=1)":                      "SELECT a FROM t AS x CROSS JOIN (u JOIN v ON 1 = 1)",
		"select a from (t)":                                        "SELECT a FROM t",
		"select a from t as t, ((u y))":                            "SELECT a FROM t CROSS JOIN u AS y",
		"select a from t,u,v":                                      "SELECT a FROM t CROSS JOIN u CROSS JOIN v",
		"select a from t,u cross join v":                           "SELECT a FROM t CROSS JOIN (u CROSS JOIN v)",
		"select a from (t,u) inner join v on a,w":                  "SELECT a FROM t CROSS JOIN u JOIN v ON a CROSS JOIN w",
		"select a from t left outer join u on a where b":           "SELECT a FROM t LEFT JOIN u ON a WHERE b",
		"select a from t right outer join u on a full join v on b": "SELECT a FROM t RIGHT JOIN u ON a FULL JOIN v ON b",
	})
}

// P9.2, P9.3: a part is written as it stands in its statement.
func TestParts(t *testing.T) {
	for _, s := range some(1, 3000) {
		if s.Op != "select" {
			continue
		}
		whole := show.Text(s)
		if got := show.Query(s.Q); got != whole {
			t.Fatalf("%q: the query is %q", whole, got)
		}
		ahead := whole
		for q := s.Q; ; q = q.L[0] {
			part := show.Query(q)
			if !strings.HasPrefix(ahead, part) {
				t.Fatalf("%q: does not begin with %q", ahead, part)
			}
			ahead = part
			if q.Op == "select" {
				from := show.From(q.S.From)
				if !strings.Contains(part, from) || (from == "") != (q.S.From.Table+q.S.From.Join == "") {
					t.Fatalf("%q: has no %q", part, from)
				}
				break
			}
			if last := show.Query(q.L[1]); !strings.Contains(part, " "+last) {
				t.Fatalf("%q: has no %q", part, last)
			}
		}
	}
}

// P9.3: types, and what is none.
func TestType(t *testing.T) {
	words := map[int]string{api.Bool: "BOOL", api.Int: "INT", api.Text: "TEXT", api.Blob: "BLOB"}
	kinds := []int{math.MinInt, math.MinInt32, math.MaxInt32, math.MaxInt, 1 << 8, 1<<8 + 1, 1<<16 + 2, 1<<32 + 3}
	for k := -20; k < 300; k++ {
		kinds = append(kinds, k)
	}
	for _, k := range kinds {
		want := words[k]
		if want == "" {
			want = "NULL"
		}
		if got := show.Type(k); got != want {
			t.Errorf("%d: got %s, want %s", k, got, want)
		}
	}
}

// nested is FROM with so many brackets in one another.
func nested(deep int) api.From {
	f := table("t")
	for range deep {
		f = join("left", table("u"), cross(f, table("v")), col("b"))
	}
	return f
}

// P9.4: as deep as brackets may be.
func TestTextDeep(t *testing.T) {
	text := func(deep int) string {
		return "SELECT a FROM " + strings.Repeat("u LEFT JOIN (", deep) + "t" + strings.Repeat(" CROSS JOIN v) ON b", deep)
	}
	for _, deep := range []int{0, 1, 2, 39, 40} {
		writes(t, selectedFrom(nested(deep)), text(deep))
	}
	over := show.Text(selectedFrom(nested(41)))
	if over != text(41) {
		t.Fatalf("got %s", over)
	}
	if _, place, err := stmt.Parse(over); err != api.ErrDeep || place != len("SELECT a FROM ")+41*len("u LEFT JOIN (")-1 {
		t.Errorf("got %d at %d", err, place)
	}
	ahead := table("t")
	for range 100 {
		ahead = join("full", ahead, table("u"), col("b"))
	}
	writes(t, selectedFrom(ahead), "SELECT a FROM t"+strings.Repeat(" FULL JOIN u ON b", 100))
}

// P9.1: what is too long to be read again is written as well.
func TestTextLong(t *testing.T) {
	s := read(t, "select a"+strings.Repeat(",a", 2000))
	writes(t, s, "SELECT a"+strings.Repeat(", a", 2000))
	name := strings.Repeat("n", api.MaxName)
	writes(t, read(t, "select "+name+" "+name+" from "+name), "SELECT "+name+" AS "+name+" FROM "+name)
}
