package stmt_test

import (
	"strings"
	"testing"

	"boscage/api"
)

// P8.1: insert, update, delete.
func TestParseRows(t *testing.T) {
	a, b := col("a"), col("b")
	for s, want := range map[string]api.Stmt{
		"insert into t values (1)":                                    {Op: "insert", Table: "t", Rows: [][]api.Expr{{num(1)}}},
		"INSERT INTO T VALUES (1, 'a'), (2, NULL);":                   {Op: "insert", Table: "t", Rows: [][]api.Expr{{num(1), text("a")}, {num(2), null()}}},
		"insert into t (a) values (1)":                                {Op: "insert", Table: "t", Names: []string{"a"}, Rows: [][]api.Expr{{num(1)}}},
		"insert into t(a,B , a)values(1),(a,-2),((b))":                {Op: "insert", Table: "t", Names: []string{"a", "b", "a"}, Rows: [][]api.Expr{{num(1)}, {a, num(-2)}, {b}}},
		"insert into t values (a or b, a in (1, 2)), (count(*))":      {Op: "insert", Table: "t", Rows: [][]api.Expr{{ex("a or b"), ex("a in (1, 2)")}, {ex("count(*)")}}},
		"update t set a = 1":                                          {Op: "update", Table: "t", Sets: []api.Set{{Name: "a", E: num(1)}}},
		"UPDATE T SET A = B WHERE A;":                                 {Op: "update", Table: "t", Sets: []api.Set{{Name: "a", E: b}}, Where: a},
		"update t set a = 3 - a, a = null, b = a = b where not a = b": {Op: "update", Table: "t", Sets: []api.Set{{Name: "a", E: ex("3 - a")}, {Name: "a", E: null()}, {Name: "b", E: ex("a = b")}}, Where: ex("not a = b")},
		"update t set a = t.b and b, b = 1 where t.a is null":         {Op: "update", Table: "t", Sets: []api.Set{{Name: "a", E: ex("t.b and b")}, {Name: "b", E: num(1)}}, Where: ex("t.a is null")},
		"delete from t":               {Op: "delete", Table: "t"},
		"DELETE FROM T;":              {Op: "delete", Table: "t"},
		"delete from t where a":       {Op: "delete", Table: "t", Where: a},
		"delete from t where a or b;": {Op: "delete", Table: "t", Where: ex("a or b")},
	} {
		parses(t, s, want)
	}
	many := api.Stmt{Op: "insert", Table: "t"}
	for range 600 {
		many.Rows = append(many.Rows, []api.Expr{num(1), a})
	}
	parses(t, "insert into t values (1,a)"+strings.Repeat(",(1,a)", 599), many)
}

// P8.1: tables and indexes, made and let go.
func TestParseTables(t *testing.T) {
	created := func(l ...api.ColDef) api.Stmt { return api.Stmt{Op: "create", Table: "t", Cols: l} }
	for s, want := range map[string]api.Stmt{
		"create table t (a int)":                                                 created(api.ColDef{Name: "a", Type: api.Int}),
		"CREATE TABLE T (A INT, B TEXT, C BOOL, D BLOB, A INT);":                 created(api.ColDef{Name: "a", Type: api.Int}, api.ColDef{Name: "b", Type: api.Text}, api.ColDef{Name: "c", Type: api.Bool}, api.ColDef{Name: "d", Type: api.Blob}, api.ColDef{Name: "a", Type: api.Int}),
		"create table t(a int not null, b int unique, c int primary key, d int)": created(api.ColDef{Name: "a", Type: api.Int, NotNull: true}, api.ColDef{Name: "b", Type: api.Int, Unique: true}, api.ColDef{Name: "c", Type: api.Int, Primary: true}, api.ColDef{Name: "d", Type: api.Int}),
		"create table t (a blob not null unique, b bool primary key)":            created(api.ColDef{Name: "a", Type: api.Blob, NotNull: true, Unique: true}, api.ColDef{Name: "b", Type: api.Bool, Primary: true}),
		"drop table t":                            {Op: "drop", Table: "t"},
		"DROP TABLE T;":                           {Op: "drop", Table: "t"},
		"create index i on t (a)":                 {Op: "index", Index: "i", Table: "t", Names: []string{"a"}},
		"CREATE INDEX I ON T (A, B, A);":          {Op: "index", Index: "i", Table: "t", Names: []string{"a", "b", "a"}},
		"create unique index i on i (i)":          {Op: "index", Index: "i", Table: "i", Names: []string{"i"}, Unique: true},
		"CREATE UNIQUE INDEX I ON T (B, A) -- x;": {Op: "index", Index: "i", Table: "t", Names: []string{"b", "a"}, Unique: true},
		"drop index i":                            {Op: "unindex", Index: "i"},
		"DROP INDEX I;":                           {Op: "unindex", Index: "i"},
		"begin":                                   {Op: "begin"},
		" Begin ; ":                               {Op: "begin"},
		"commit":                                  {Op: "commit"},
		"COMMIT;":                                 {Op: "commit"},
		"rollback":                                {Op: "rollback"},
		"--x\nrollBACK\n;--":                      {Op: "rollback"},
		"drop table view":                         {Op: "drop", Table: "view"},
		"drop index " + strings.Repeat("n", 32):   {Op: "unindex", Index: strings.Repeat("n", 32)},
		"create table t (t int, x text unique)":   created(api.ColDef{Name: "t", Type: api.Int}, api.ColDef{Name: "x", Type: api.Text, Unique: true}),
		"create table t (a int" + cols(40) + ");": created(append([]api.ColDef{{Name: "a", Type: api.Int}}, colDefs(40)...)...),
	} {
		parses(t, s, want)
	}
}

// cols are more columns of one kind than a table may have, which Parse does not ask.
func cols(many int) string { return strings.Repeat(", b text not null", many) }
func colDefs(many int) []api.ColDef {
	var l []api.ColDef
	for range many {
		l = append(l, api.ColDef{Name: "b", Type: api.Text, NotNull: true})
	}
	return l
}

// P8.1: what is said of a column, in any order, each once.
func TestParseColumn(t *testing.T) {
	words := []string{"not null", "unique", "primary key"}
	said := func(used ...int) (string, api.ColDef) {
		s, c := "a int", api.ColDef{Name: "a", Type: api.Int}
		for _, i := range used {
			s += " " + words[i]
			c.NotNull, c.Unique, c.Primary = c.NotNull || i == 0, c.Unique || i == 1, c.Primary || i == 2
		}
		return s, c
	}
	for i := range 3 {
		for j := range 3 {
			for k := range 3 {
				if i == j || j == k || i == k {
					two, _ := said(i, j)
					if i != j {
						misplaces(t, "create table t ("+two+" @"+words[k]+")")
					}
					continue
				}
				s, c := said(i, j, k)
				parses(t, "create table t ("+s+")", api.Stmt{Op: "create", Table: "t", Cols: []api.ColDef{c}})
				parses(t, "create table t ("+s+", "+strings.ToUpper(s)+")", api.Stmt{Op: "create", Table: "t", Cols: []api.ColDef{c, c}})
				misplaces(t, "create table t ("+s+" @"+words[k]+")")
			}
		}
	}
}

// P8.1: the token that does not go, of what is no query.
func TestChangeSyntax(t *testing.T) {
	for _, marked := range []string{
		"insert@", "insert @t values (1)", "insert @values (1)", "insert into@", "insert into @1", "insert into @'t' values (1)", "insert into @(a) values (1)", "insert into @values (1)", "insert into @select", "insert into t@", "insert into t@;", "insert into t @t values (1)", "insert into t@.u values (1)", "insert into t @as u values (1)", "insert into t @select 1", "insert into t @set a = 1", "insert into t @default values",
		"insert into t (@) values (1)", "insert into t (@1) values (1)", "insert into t (@'a') values (1)", "insert into t (a@", "insert into t (a,@", "insert into t (a, @) values (1)", "insert into t (@, a) values (1)", "insert into t (a @b) values (1)", "insert into t (a@.b) values (1)", "insert into t (@*) values (1)", "insert into t (@(a)) values (1)", "insert into t (a) @(b) values (1)", "insert into t (a)@", "insert into t (a) @select 1", "insert into t (@select) values (1)", "insert into t (a@; b) values (1)",
		"insert into t values@", "insert into t values @1", "insert into t values @;", "insert into t values (@", "insert into t values (@)", "insert into t values (1@", "insert into t values (1@;)", "insert into t values (1,@", "insert into t values (1, @)", "insert into t values (@, 1)", "insert into t values (1 @2)", "insert into t values (1) @(2)", "insert into t values (1)@)", "insert into t values (1), @", "insert into t values (1), @2", "insert into t values (1), @;", "insert into t values (1), (@)", "insert into t values (1),@, (2)", "insert into t values (1 @as a)", "insert into t values (1 @a)", "insert into t values (1) @where a", "insert into t values (1) @values (2)", "insert into t values (@*)", "insert into t values (1);@;", "insert into t values (1); @x", "insert into t values (@select 1)", "insert into t values ((1@, 2))", "insert into t values (a @b)", "insert into t values (9 +@)", "insert into t values (@9223372036854775808)",
		"update@", "update @1 set a = 1", "update @set a = 1", "update @'t' set a = 1", "update t@", "update t @a = 1", "update t @u set a = 1", "update t @as u set a = 1", "update t@, u set a = 1", "update t@.u set a = 1", "update t @where a", "update @table t set a = 1", "update t set@", "update t set @1 = a", "update t set @= 1", "update t set @where a", "update t set @(a) = 1", "update t set @'a' = 1", "update t set @select = 1", "update t set a@", "update t set a @1", "update t set a@.b = 1", "update t set a @< 1", "update t set a @<> 1", "update t set a @is null", "update t set a @(1)", "update t set a =@", "update t set a = @;", "update t set a = @= 1", "update t set a = @where b", "update t set a = 1 @b = 2", "update t set a = 1,@", "update t set a = 1, @where b", "update t set a = 1, b@, c = 2", "update t set a = 1, @1 = 2", "update t set a = 1,@, b = 2", "update t set a = 1@)", "update t set a = b = c @= 1", "update t set a = 1 and@", "update t set a = 1 @set b = 2", "update t set a = @select 1", "update t set a = 1 where@", "update t set a = 1 where @;", "update t set a = 1 where b @where c", "update t set a = 1 where b@, c = 1", "update t set a = 1 where b @order by c", "update t set a = 1 where b @c", "update t set a = 1; @where b", "update t set a = 1 @from u", "update t set a = 1 @limit 1", "update t set a = 1;@;",
		"delete@", "delete @t", "delete @where a", "delete @* from t", "delete from@", "delete from @;", "delete from @1", "delete from @'t'", "delete from @where a", "delete from @(t)", "delete from @all", "delete from t @u", "delete from t @as u", "delete from t@, u", "delete from t@.u", "delete from t @a = 1", "delete from t @join u on a", "delete from t where@", "delete from t where @;", "delete from t where @where", "delete from t where a @b", "delete from t where a@, b", "delete from t where a @where b", "delete from t where a @order by b", "delete from t where a @limit 1", "delete from t @limit 1", "delete from t @set a = 1", "delete from t;@;", "delete from t where a@)", "delete from t; @where a", "delete from t @values (1)",
		"create@", "create @t", "create @view v", "create @'table' t (a int)", "create @database d", "create @or replace table t (a int)", "create @;", "create @create", "create @on", "create @drop table t", "create @select 1",
		"create table@", "create table @1 (a int)", "create table @(a int)", "create table @'t' (a int)", "create table if @not exists t (a int)", "create table @table (a int)", "create table t@", "create table t@;", "create table t @a int", "create table t @as select 1", "create table t@.u (a int)", "create table t @u (a int)", "create table t (@", "create table t (@)", "create table t (@, a int)", "create table t (@1 int)", "create table t (@'a' int)", "create table t (@int)", "create table t (@int int)", "create table t (@primary key (a))", "create table t (@unique (a))", "create table t (@text)", "create table t (@key int)", "create table t (@select int)", "create table t (@(a int))",
		"create table t (a@", "create table t (a@)", "create table t (a@, b int)", "create table t (a @float)", "create table t (a @integer)", "create table t (a @varchar(3))", "create table t (a @b int)", "create table t (a @not null)", "create table t (a @unique int)", "create table t (a @'int')", "create table t (a @1)", "create table t (a @null)", "create table t (a @primary key int)", "create table t (a@.b int)", "create table t (a int@", "create table t (a int@;", "create table t (a int@;)", "create table t (a int @int)", "create table t (a int @text)", "create table t (a int@(3))", "create table t (a int @b)", "create table t (a int @null)", "create table t (a int @default 1)", "create table t (a int @key)", "create table t (a int @check (a))", "create table t (a int @references u)", "create table t (a int @1)", "create table t (a int,@", "create table t (a int, @)", "create table t (a int,@, b int)", "create table t (a int, b@)", "create table t (a int, @unique (a))", "create table t (a int, @primary key (a))", "create table t (a int, @int)",
		"create table t (a int not@", "create table t (a int not@)", "create table t (a int not @unique)", "create table t (a int not @not null)", "create table t (a int not @b)", "create table t (a int not null @null)", "create table t (a int not null @key)", "create table t (a int primary@", "create table t (a int primary@)", "create table t (a int primary@, b int)", "create table t (a int primary @unique)", "create table t (a int primary @not null)", "create table t (a int primary @primary key)", "create table t (a int primary key @key)", "create table t (a int unique @key)", "create table t (a int unique @index)", "create table t (a int unique @unique)", "create table t (a int not null @not null)", "create table t (a int primary key @primary key)", "create table t (a int unique not null primary key @unique)", "create table t (a int primary key not null unique @not null)", "create table t (a int unique @null)", "create table t (a int unique@", "create table t (a int primary key@", "create table t (a int not null@", "create table t (a int, b text not null unique @not null)",
		"create table t (a int)@)", "create table t (a int) @x", "create table t (a int) @(b int)", "create table t (a int);@;", "create table t (a int); @x", "create table t (a int) @where a",
		"create index@", "create index @on t (a)", "create index @1 on t (a)", "create index @(a)", "create index @'i' on t (a)", "create index @unique i on t (a)", "create index i@", "create index i @t (a)", "create index i @(a)", "create index i@.j on t (a)", "create index i on@", "create index i on @(a)", "create index i on @1", "create index i on @'t' (a)", "create index i on t@", "create index i on t@;", "create index i on t @a", "create index i on t@.u (a)", "create index i on t @x (a)", "create index i on t (@)", "create index i on t (@1)", "create index i on t (@'a')", "create index i on t (a@", "create index i on t (a,@", "create index i on t (a, @)", "create index i on t (@, a)", "create index i on t (a @b)", "create index i on t (a@.b)", "create index i on t (a @desc)", "create index i on t (a @asc)", "create index i on t (a @+ 1)", "create index i on t (lower@(a))", "create index i on t (a)@)", "create index i on t (a) @where a", "create index i on t (a) @(b)", "create index i on t (a);@;", "create index i on t (a) @unique", "create index i on t (@key)",
		"create unique@", "create unique @table t (a int)", "create unique @i on t (a)", "create unique @unique index i on t (a)", "create unique @;", "create unique index@", "create unique index @on t (a)", "create unique index i@", "create unique index i on t (@)", "create unique index i on t (a) @x",
		"drop@", "drop @;", "drop @t", "drop @select", "drop @view v", "drop @unique index i", "drop @'table' t", "drop @1", "drop @drop table t", "drop table@", "drop table @;", "drop table @1", "drop table @'t'", "drop table @table", "drop table @index", "drop table t@, u", "drop table t@.u", "drop table t @u", "drop table t;@;", "drop table @(t)", "drop table t @where a", "drop table if @exists t", "drop table t; @u", "drop index@", "drop index @;", "drop index @1", "drop index @'i'", "drop index @on", "drop index i @on t", "drop index i@.j", "drop index i@, j", "drop index i @j", "drop index i;@;", "drop index i; @j", "drop index @*",
		"begin @begin", "begin @transaction", "begin @work", "begin @1", "begin@)", "begin @commit", "begin;@;", "begin; @commit", "begin @'x'", "begin@.", "commit @work", "commit @commit", "commit @1", "commit;@;", "commit; @begin", "commit@(", "rollback @to a", "rollback @rollback", "rollback @'a'", "rollback;@;", "rollback; @1", "rollback@,",
		"@alter table t", "@end", "@explain select 1", "@set a = 1", "@into t", "@index i", "@unique", "@view", "@replace into t values (1)", "@with a", "@key", "@int", "@t", "@null", "@=", "@*", "@.", "@,", "@-1", "@'begin'", "@x'' begin", "@;;", "@;begin", "@; begin", "@", "  @", " -- x@", " -- x\n@", "@in", "@values", "@is",
	} {
		misplaces(t, marked)
	}
}

// P8.1: where a name must stand, no word that is reserved does; any other one does.
func TestNames(t *testing.T) {
	texts := []string{"select a as @", "select a from @", "select a from t as @", "select a from t join u as @", "insert into @", "insert into t (@", "insert into t (b, @", "update @", "update t set @", "update t set a = 1, @", "delete from @", "create table @", "create table t (@", "create table t (b int, @", "drop table @", "drop index @", "create index @", "create unique index @", "create index i on @", "create index i on t (@", "create index i on t (b, @"}
	behind := map[string]string{"insert into @": " values (1)", "insert into t (@": ") values (1)", "insert into t (b, @": ") values (1)", "update @": " set a = 1", "update t set @": " = 1", "update t set a = 1, @": " = 1", "create table @": " (a int)", "create table t (@": " int)", "create table t (b int, @": " int)", "create index @": " on t (a)", "create unique index @": " on t (a)", "create index i on @": " (a)", "create index i on t (@": ")", "create index i on t (b, @": ")", "select a from t join u as @": " on a"}
	for _, s := range texts {
		for _, word := range reserved() {
			misplaces(t, s+word+behind[s])
		}
		ahead := strings.TrimSuffix(s, "@")
		want, ok := read(ahead + "n" + behind[s])
		if !ok {
			t.Fatalf("%q: no statement", s)
		}
		for _, word := range []string{"view", "count", "N1", "_", "integer", "x", "selects", strings.Repeat("Z", 32)} {
			got, ok := read(ahead + word + behind[s])
			if !ok || strings.ReplaceAll(shown(got), `"`+strings.ToLower(word)+`"`, `"n"`) != shown(want) {
				t.Fatalf("%q: got %s, want %s", ahead+word+behind[s], shown(got), shown(want))
			}
		}
	}
}
