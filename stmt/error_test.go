package stmt_test

import (
	"strings"
	"testing"

	"boscage/api"
)

// P8.1: token's errors, ahead of all others, and their places.
func TestParseTokens(t *testing.T) {
	refuses(t, "?", 0, api.ErrToken)
	refuses(t, "select a from t where b = 12c", 26, api.ErrToken)
	refuses(t, "select from 'x", 12, api.ErrToken)
	refuses(t, "drop table "+strings.Repeat("n", 33), 11, api.ErrToken)
	refuses(t, "begin; x'0'", 7, api.ErrToken)
	refuses(t, "select a limit 9223372036854775809", 15, api.ErrToken)
	refuses(t, "select * from "+strings.Repeat("(", 50)+"?", 64, api.ErrToken)
	refuses(t, "delete from t where "+strings.Repeat("not ", 40)+"a !", 182, api.ErrToken)
	refuses(t, strings.Repeat(" ", 4097), 0, api.ErrLong)
	refuses(t, "begin"+strings.Repeat(" ", 4092), 0, api.ErrLong)
	refuses(t, "?"+strings.Repeat(" ", 4096), 0, api.ErrLong)
	parses(t, "begin"+strings.Repeat(" ", 4091), api.Stmt{Op: "begin"})
	refuses(t, strings.Repeat(" ", 4096), 4096, api.ErrSyntax)
}

// P8.1: expressions that are too deep, wherever one may stand; one fewer is not.
func TestParseDeepExpressions(t *testing.T) {
	nots := func(many int) string { return strings.Repeat("not ", many) }
	for _, marked := range []string{"select @", "select a, @", "select distinct @ n", "select a from t join u on @", "select a from t, (u left join v on @) where b", "select a from t where @", "select a group by @", "select a group by b, @ having c", "select a having @", "select a order by @", "select a order by b, @ desc", "select a union select @ limit 1", "insert into t values (@)", "insert into t values (1, @), (2)", "insert into t (a) values (1), (@)", "update t set a = @", "update t set a = 1, b = @", "update t set a = 1 where @", "delete from t where @", "delete from t where @;"} {
		ahead, behind, _ := strings.Cut(marked, "@")
		flat, _ := read(ahead + "zz" + behind)
		deepest := col("zz")
		for range 39 {
			deepest = api.Expr{Op: "not", L: []api.Expr{deepest}}
		}
		got, is := read(ahead + nots(39) + "zz" + behind)
		if want := strings.Replace(shown(flat), shown(col("zz")), shown(deepest), 1); !is || shown(got) != want {
			t.Fatalf("%q: got %s, want %s", marked, shown(got), want)
		}
		refuses(t, ahead+nots(40)+"zz"+behind, len(ahead), api.ErrDeep)
		refuses(t, ahead+"b + "+strings.Repeat("- ", 39)+"zz"+behind, len(ahead), api.ErrDeep)
		refuses(t, ahead+"\n  "+nots(40)+"zz"+behind, len(ahead)+3, api.ErrDeep)
		misplaces(t, ahead+nots(40)+"zz + @)"+behind)
	}
}

// P8.1: what is met first, from the left; of an expression its ErrSyntax ahead of its ErrDeep.
func TestParseFirst(t *testing.T) {
	deep := strings.Repeat("not ", 40) + "a"
	opened := strings.Repeat("(", 41)
	refuses(t, "delete from t where "+deep+" b", 20, api.ErrDeep)
	refuses(t, "delete from t where "+deep+")", 20, api.ErrDeep)
	refuses(t, "delete from t where "+deep+"; b", 20, api.ErrDeep)
	misplaces(t, "delete from t where "+deep+" or @)")
	misplaces(t, "delete from t where ("+deep+" @b)")
	misplaces(t, "delete from t where "+deep+" and@")
	misplaces(t, "delete from t @u where "+deep)
	refuses(t, "insert into t values ("+deep+"), ()", 22, api.ErrDeep)
	misplaces(t, "insert into t values (@), ("+deep+")")
	refuses(t, "insert into t values (1, "+deep+" 2)", 25, api.ErrDeep)
	refuses(t, "update t set a = "+deep+", b = )", 17, api.ErrDeep)
	refuses(t, "select "+deep+", "+deep, 7, api.ErrDeep)
	refuses(t, "select a, "+deep+" from "+opened, 10, api.ErrDeep)
	refuses(t, "select a from "+opened+" where "+deep, 54, api.ErrDeep)
	refuses(t, "select a from t join u on "+deep+" join "+opened, 26, api.ErrDeep)
	misplaces(t, "select a from "+opened[:39]+"@) where "+deep)
	misplaces(t, "select @from "+opened)
	misplaces(t, "select a from t where a = @, "+deep)
	misplaces(t, "select a b @c from "+opened)
}

// P8.1: brackets of FROM in one another.
func TestParseDeepFrom(t *testing.T) {
	const ahead = "select a from "
	open, shut := strings.Repeat("(", 40), strings.Repeat(")", 40)
	t1, u := table("t"), table("u")
	parses(t, ahead+open+"t"+shut, selectedFrom(t1))
	refuses(t, ahead+"("+open+"t"+shut+")", 54, api.ErrDeep)
	refuses(t, ahead+"("+open, 54, api.ErrDeep)
	refuses(t, ahead+open+" ( ", 55, api.ErrDeep)
	refuses(t, ahead+open+open+open, 54, api.ErrDeep)
	misplaces(t, ahead+open+"@")
	misplaces(t, ahead+open+"@)")
	misplaces(t, ahead+open+"t"+shut[1:]+"@")
	misplaces(t, ahead+open+"t"+shut+"@)")
	parses(t, ahead+open+"t"+shut+", "+open+"u"+shut, selectedFrom(cross(t1, u)))
	parses(t, ahead+open+"t"+shut+" join "+open+"u"+shut+" on b", selectedFrom(join("inner", t1, u, col("b"))))
	parses(t, ahead+open[1:]+"(t), (u)"+shut[1:], selectedFrom(cross(t1, u)))
	parses(t, ahead+open[1:]+"(t) cross join (u)"+shut[1:]+" union "+ahead+open+"t"+shut, asked(put("union", selectedFrom(cross(t1, u)).Q, selectedFrom(t1).Q)))
	refuses(t, ahead+open+"t, (u)"+shut, 57, api.ErrDeep)
	refuses(t, ahead+open[1:]+"(t), ((u))"+shut[1:], 59, api.ErrDeep)
	refuses(t, ahead+open+"t join (u) on b"+shut, 61, api.ErrDeep)
	refuses(t, ahead+"t union "+ahead+open+"(u)"+shut, 76, api.ErrDeep)
	many := t1
	s := "t"
	for range 39 {
		many = cross(u, many)
		s = "u, (" + s + ")"
	}
	parses(t, ahead+s, selectedFrom(many))
	parses(t, ahead+"("+s+")", selectedFrom(many))
	refuses(t, ahead+"(("+s+"))", 14+2+39*4-1, api.ErrDeep)
	for range 300 {
		many, s = cross(many, t1), s+", (t)"
	}
	parses(t, ahead+s, selectedFrom(many))
	on := selectedFrom(join("inner", t1, u, col("b")))
	parses(t, ahead+"t join u on "+open+open+"b"+shut+shut, on)
	parses(t, ahead+open+"t join u on "+open+"b"+shut+shut, on)
	refuses(t, ahead+open+"t join u on (b) join (u) on b"+shut, 75, api.ErrDeep)
}
