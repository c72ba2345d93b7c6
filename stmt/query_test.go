package stmt_test

import (
	"math"
	"strings"
	"testing"

	"boscage/api"
)

// P8.1: select, its items and its other parts.
func TestParseSelect(t *testing.T) {
	a, b, t1 := col("a"), col("b"), table("t")
	star := []api.Item{{Star: true}}
	for s, want := range map[string]api.Select{
		"select 1":                                      {Items: items(num(1))},
		"select all 1":                                  {Items: items(num(1))},
		"select distinct a":                             {Distinct: true, Items: items(a)},
		"select -9223372036854775808":                   {Items: items(num(math.MinInt64))},
		"select *":                                      {Items: star},
		"select *, *":                                   {Items: append(star, star...)},
		"select distinct *, a":                          {Distinct: true, Items: append(star, items(a)...)},
		"select t.*":                                    {Items: []api.Item{{Star: true, Table: "t"}}},
		"select T . *, a, count.*":                      {Items: []api.Item{{Star: true, Table: "t"}, {E: a}, {Star: true, Table: "count"}}},
		"select t.a, t.a * b, t.a":                      {Items: items(colOf("t", "a"), ex("t.a * b"), colOf("t", "a"))},
		"select count(*), count(*) * 2":                 {Items: items(ex("count(*)"), ex("count(*) * 2"))},
		"select a n, a as m, t.a A1, a":                 {Items: []api.Item{{E: a, As: "n"}, {E: a, As: "m"}, {E: colOf("t", "a"), As: "a1"}, {E: a}}},
		"select a or b n, not a as a":                   {Items: []api.Item{{E: ex("a or b"), As: "n"}, {E: ex("not a"), As: "a"}}},
		"select 'a' b":                                  {Items: []api.Item{{E: text("a"), As: "b"}}},
		"select f(a, 1) f":                              {Items: []api.Item{{E: ex("f(a, 1)"), As: "f"}}},
		"select (a), (b) n from t":                      {Items: []api.Item{{E: a}, {E: b, As: "n"}}, From: t1},
		"select a from t where b":                       {Items: items(a), From: t1, Where: b},
		"select a where b":                              {Items: items(a), Where: b},
		"select a where a between 1 and 2 and b":        {Items: items(a), Where: ex("a between 1 and 2 and b")},
		"select a group by b":                           {Items: items(a), Group: []api.Expr{b}},
		"select a group by b, a + 1, 2":                 {Items: items(a), Group: []api.Expr{b, ex("a + 1"), num(2)}},
		"select a having b":                             {Items: items(a), Having: b},
		"select a from t having b":                      {Items: items(a), From: t1, Having: b},
		"select a from t where b having a":              {Items: items(a), From: t1, Where: b, Having: a},
		"select a where b group by a having b":          {Items: items(a), Where: b, Group: []api.Expr{a}, Having: b},
		"select a from t where b group by a having b;":  {Items: items(a), From: t1, Where: b, Group: []api.Expr{a}, Having: b},
		" -- x\nSELECT A\nFROM T -- y\nWHERE B;--z;":    {Items: items(a), From: t1, Where: b},
		"select a from t group by a in (1, 2), b":       {Items: items(a), From: t1, Group: []api.Expr{ex("a in (1, 2)"), b}},
		"select distinct a, b n from t where not a = b": {Distinct: true, Items: []api.Item{{E: a}, {E: b, As: "n"}}, From: t1, Where: ex("not a = b")},
	} {
		parses(t, s, selected(want))
	}
	long := strings.Repeat("n", 32)
	parses(t, "select "+long+" "+long+" from "+long, selected(api.Select{Items: []api.Item{{E: col(long), As: long}}, From: table(long)}))
}

// P8.1: from, what stands ahead first.
func TestParseFrom(t *testing.T) {
	t1, u, v, w := table("t"), table("u"), table("v"), table("w")
	on := col("b")
	for s, want := range map[string]api.From{
		"t": t1, "T": t1, "t x": as("t", "x"), "t as x": as("t", "x"), "t AS T": t1, "t t": t1, "(t)": t1, "((t))": t1, "(t x)": as("t", "x"), "( ( ( t as x ) ) )": as("t", "x"),
		"t, u": cross(t1, u), "t, u, v": cross(cross(t1, u), v), "t, (u, v)": cross(t1, cross(u, v)), "(t, u), v": cross(cross(t1, u), v), "(t, u), (v, w)": cross(cross(t1, u), cross(v, w)), "t x, t y": cross(as("t", "x"), as("t", "y")),
		"t cross join u": cross(t1, u), "t cross join u cross join v": cross(cross(t1, u), v), "t cross join (u cross join v)": cross(t1, cross(u, v)),
		"t, u cross join v": cross(t1, cross(u, v)), "t cross join u, v": cross(cross(t1, u), v), "t, u cross join v, w": cross(cross(t1, cross(u, v)), w),
		"t join u on b": join("inner", t1, u, on), "t inner join u on b": join("inner", t1, u, on), "t left join u on b": join("left", t1, u, on), "t left outer join u on b": join("left", t1, u, on), "t right join u on b": join("right", t1, u, on), "t right outer join u on b": join("right", t1, u, on), "t full join u on b": join("full", t1, u, on), "T FULL OUTER JOIN U ON B": join("full", t1, u, on),
		"t x join u as y on x.a = y.a":                           join("inner", as("t", "x"), as("u", "y"), ex("x.a = y.a")),
		"t join u on b join v on 1 = 2":                          join("inner", join("inner", t1, u, on), v, ex("1 = 2")),
		"t join (u join v on 1 = 2) on b":                        join("inner", t1, join("inner", u, v, ex("1 = 2")), on),
		"(t join u on b) join v on 1":                            join("inner", join("inner", t1, u, on), v, num(1)),
		"t left join u on b and a cross join v":                  cross(join("left", t1, u, ex("b and a")), v),
		"t cross join u right join v on b, w":                    cross(join("right", cross(t1, u), v, on), w),
		"t, u full join v on b left join w on 1":                 cross(t1, join("left", join("full", u, v, on), w, num(1))),
		"t left join (u, v) on b":                                join("left", t1, cross(u, v), on),
		"(t, u) full join ((v w)) on b":                          join("full", cross(t1, u), as("v", "w"), on),
		"t left join u on b right join v on 1 full join w on 2":  join("full", join("right", join("left", t1, u, on), v, num(1)), w, num(2)),
		"t join (u left join (v full join w on 3) on 2) on 1":    join("inner", t1, join("left", u, join("full", v, w, num(3)), num(2)), num(1)),
		"t join u on a in (1, 2), v join w on a between 1 and 2": cross(join("inner", t1, u, ex("a in (1, 2)")), join("inner", v, w, ex("a between 1 and 2"))),
	} {
		parses(t, "select a from "+s, selectedFrom(want))
		parses(t, "select a from "+s+" ;", selectedFrom(want))
		where := selectedFrom(want)
		where.Q.S.Where = num(7)
		parses(t, "select a from "+s+" where 7", where)
		parses(t, "select a from ("+s+") where 7", where)
	}
	many := t1
	for range 200 {
		many = cross(many, u)
	}
	parses(t, "select a from t"+strings.Repeat(", u", 200), selectedFrom(many))
}

// P8.1: queries that are put together, what stands ahead first; what stands behind is the whole's.
func TestParsePut(t *testing.T) {
	a, b, c := one(api.Select{Items: items(num(1))}), one(api.Select{Items: items(num(2)), From: table("t"), Where: col("b")}), one(api.Select{Distinct: true, Items: []api.Item{{Star: true}}, Group: []api.Expr{num(3)}})
	const first, second, third = "select 1", "select 2 from t where b", "select distinct * group by 3"
	words := map[string]string{"union": "union", "union all": "unionall", "UNION\nALL": "unionall", "intersect": "intersect", "except": "except"}
	for w, op := range words {
		parses(t, first+" "+w+" "+second, asked(put(op, a, b)))
		parses(t, second+" "+w+" "+first, asked(put(op, b, a)))
		for x, other := range words {
			parses(t, first+" "+w+" "+second+" "+x+" "+third+" ;", asked(put(other, put(op, a, b), c)))
		}
	}
	parses(t, "select 1 union select all 1", asked(put("union", a, a)))
	whole := put("except", put("union", a, b), c)
	whole.Order, whole.Limit, whole.Offset = []api.Key{{E: num(1)}}, 5, 6
	parses(t, first+" union "+second+" except "+third+" order by 1 limit 5 offset 6", asked(whole))
	many := a
	for range 200 {
		many = put("union", many, a)
	}
	parses(t, first+strings.Repeat(" union "+first, 200), asked(many))
}

// P8.1: order by, limit, offset.
func TestParseEnds(t *testing.T) {
	a, b := col("a"), col("b")
	end := func(order []api.Key, limit, offset int64) api.Stmt {
		q := one(api.Select{Items: items(a), From: table("t")})
		q.Order, q.Limit, q.Offset = order, limit, offset
		return asked(q)
	}
	for s, want := range map[string]api.Stmt{
		"":                                   end(nil, -1, -1),
		"order by b":                         end([]api.Key{{E: b}}, -1, -1),
		"order by b asc":                     end([]api.Key{{E: b}}, -1, -1),
		"ORDER BY B DESC":                    end([]api.Key{{E: b, Desc: true}}, -1, -1),
		"order by a desc, b":                 end([]api.Key{{E: a, Desc: true}, {E: b}}, -1, -1),
		"order by a, b desc":                 end([]api.Key{{E: a}, {E: b, Desc: true}}, -1, -1),
		"order by a asc, 2, b desc":          end([]api.Key{{E: a}, {E: num(2)}, {E: b, Desc: true}}, -1, -1),
		"order by a + b desc, -1":            end([]api.Key{{E: ex("a + b"), Desc: true}, {E: num(-1)}}, -1, -1),
		"limit 0":                            end(nil, 0, -1),
		"limit 007":                          end(nil, 7, -1),
		"limit 9223372036854775807":          end(nil, math.MaxInt64, -1),
		"limit 0 offset 0":                   end(nil, 0, 0),
		"limit 1 offset 9223372036854775807": end(nil, 1, math.MaxInt64),
		"order by b limit 3":                 end([]api.Key{{E: b}}, 3, -1),
		"order by b desc limit 3 offset 4;":  end([]api.Key{{E: b, Desc: true}}, 3, 4),
	} {
		parses(t, "select a from t "+s, want)
	}
}

// P8.1: the token of a query that does not go.
func TestQuerySyntax(t *testing.T) {
	for _, marked := range []string{
		"@", "@;", "@()", "@(select 1)", "@a", "@1", "@as", "@'select' 1", "@x'73' 1", "@union select 1", "@from t", "@order by 1", "@as", "@where", "@join", "@values (1)", "@table t",
		"select@", "select @;", "select @from t", "select all @all a", "select all @distinct a", "select distinct @all a", "select distinct @distinct a", "select distinct@", "select distinct @, a", "select all @from t", "select @, a", "select a, @", "select a, @from t", "select a,@, a", "select @where a", "select @as a",
		"select a as@", "select a as @1", "select a as @'n'", "select a as @from t", "select a as b @c", "select a b @c", "select a @'b'", "select a @1", "select a b@.c", "select a as @as b", "select a as @(b)", "select a @x'00'", "select a b @as c",
		"select * @a", "select * @as a", "select *@.a", "select *@*", "select * @+ 1", "select * @* 2", "select t.* @a", "select t.* @as a", "select t.*@.*", "select t.* @* 2", "select t.@", "select t.@1", "select t.@from", "select t.@.*", "select t.a@.*", "select 't'@.*", "select 1@.*", "select @left.*", "select @from.*", "select (t.@*)", "select (@*)", "select a, @)", "select -@*", "select t.*, @.*", "select @.*", "select t t@.*",
		"select a from@", "select a from @;", "select a from @1", "select a from @'t'", "select a from @where b", "select a from @select 1", "select a from t@.u", "select a from t@()", "select a from t @1", "select a from t @'x'", "select a from t x @y", "select a from t as@", "select a from t as @1", "select a from t as @'x'", "select a from t as @left join u on b", "select a from t as x @y", "select a from t @from u", "select a from @*", "select a from @, t", "select a from t,@", "select a from t, @where b", "select a from t,@, u",
		"select a from (@)", "select a from (t@", "select a from (t @;", "select a from (t@;)", "select a from (t x @y)", "select a from (t) @x", "select a from (t) @as x", "select a from (t)@)", "select a from ((t)@", "select a from (t) @(u)", "select a from (t, @)", "select a from (@select 1)", "select a from (t @where b)", "select a from (t @limit 1)", "select a from (t@.a)", "select a from (@1)", "select a from (t, u @on b)", "select a from (t @select)", "select a from t @(u)", "select a from (@,)",
		"select a from @join t on b", "select a from t join@", "select a from t join @on b", "select a from t join @1", "select a from t join @join u on b", "select a from t join u@", "select a from t join u @where b", "select a from t join u@, v", "select a from t join u @join v on b", "select a from t join u on@", "select a from t join u on @where b", "select a from t join u on b @on c", "select a from t join u on b @x", "select a from t join u x @y on b", "select a from t join u @using (a)",
		"select a from t inner @u on b", "select a from t inner@", "select a from t inner @outer join u on b", "select a from t inner @left join u on b", "select a from t inner join u@", "select a from t left @u on b", "select a from t left@", "select a from t left @inner join u on b", "select a from t left outer @outer join u on b", "select a from t left outer @u on b", "select a from t left outer@", "select a from t left join u@", "select a from t left join u @where b", "select a from t @outer join u on b", "select a from t right @left join u on b", "select a from t right join u@", "select a from t right @cross join u", "select a from t full @u on b", "select a from t full join u@", "select a from t full outer join u @cross join v",
		"select a from t cross @u", "select a from t cross@", "select a from t cross @outer join u", "select a from t cross @inner join u", "select a from t cross join@", "select a from t cross join u @on b", "select a from t cross join @cross", "select a from t cross join u x @y", "select a from t cross join (u) @x", "select a from t left join (u, v)@", "select a from t, @join u on b", "select a from t @on b", "select a from t x @natural join u on b",
		"select a where@", "select a where @group by b", "select a where @;", "select a where b @where c", "select a where b @c", "select a where b@, c", "select a where b @as c", "select a where (b@", "select a where b @from t", "select a where @*", "select a where t.@*", "select a where b in (@select 1)", "select a where b = @select", "select a where b = c @= d",
		"select a group@", "select a group @b", "select a @by b", "select a group by@", "select a group by @having b", "select a group by b,@", "select a group by b, @having c", "select a group by b @c", "select a group by b @asc", "select a group by b @where c", "select a group by b @group by c", "select a group by b @as c", "select a group by @*", "select a group by b @from t",
		"select a having@", "select a having @order by b", "select a having b@, c", "select a having b @group by c", "select a having b @having c", "select a having b @where c", "select a having b @from t", "select a having b @c",
		"select a order@", "select a order @b", "select a order by@", "select a order by @limit 1", "select a order by b,@", "select a order by b, @limit 1", "select a order by b @c", "select a order by b asc @asc", "select a order by b asc @desc", "select a order by b desc @asc", "select a order by @desc", "select a order by b @as c", "select a order by b @order by c", "select a order by b @where c", "select a order by b @union select 1", "select a order by b @having c", "select a order by b asc@.c", "select a order by @*", "select a order by t.@*", "select a order by b desc @from t",
		"select a limit@", "select a limit @b", "select a limit @-1", "select a limit @- 1", "select a limit @(1)", "select a limit @'1'", "select a limit @null", "select a limit @all", "select a limit @x'01'", "select a limit @9223372036854775808", "select a limit 1 @+ 1", "select a limit 1@, 2", "select a limit 1 @2", "select a limit 1 @limit 2", "select a limit 1 @order by b", "select a limit 1 @where b", "select a limit 1 @union select 1", "select a limit 1 @a", "select a limit 1 @as a", "select a limit @offset 1", "select a limit @;",
		"select a @offset 1", "select a @offset 1 limit 1", "select a limit 1 offset@", "select a limit 1 offset @-1", "select a limit 1 offset @a", "select a limit 1 offset @9223372036854775808", "select a limit 1 offset @(2)", "select a limit 1 offset 2 @offset 3", "select a limit 1 offset 2 @limit 3", "select a limit 1 offset 2 @3", "select a limit 1 offset 2@, 3", "select a limit 1 offset @;", "select a order by b @offset 1",
		"select a union@", "select a union @;", "select a union @a", "select a union @(select a)", "select a union @distinct select a", "select a union all@", "select a union all @all select a", "select a union all @from t", "select a union all @distinct select a", "select a union @union select a", "select a intersect@", "select a intersect @all select a", "select a intersect @except select a", "select a except@", "select a except @all select a", "select a except @values (1)", "select a union select@", "select a union select @from t", "select a union select a as@", "select a @all select a", "select a union select a @select a", "select a @select a", "select a union @insert into t values (1)", "select a union select a @begin",
		"select a;@;", "select a; @a", "select a; @select a", "select a@)", "select a from t@)", "select a from t; @where b", "select a limit 1;@;",
	} {
		misplaces(t, marked)
	}
}
