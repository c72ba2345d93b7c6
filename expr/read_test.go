package expr_test

import (
	"slices"
	"strings"
	"testing"

	"boscage/api"
	"boscage/expr"
)

// P7.2: line 9, what stands for itself.
func TestParseSingle(t *testing.T) {
	for s, want := range map[string]api.Expr{
		"0": num(0), "12": num(12), "007": num(7), "9223372036854775807": num(1<<63 - 1),
		"''": text(""), "'it''s'": text("it's"), "'and'": text("and"), "x''": blob(""), "X'0Fff'": blob("\x0f\xff"),
		"NULL": null(), "null": null(), "True": yes(), "fALSE": no(),
		"a": col("a"), "A1": col("a1"), "count": col("count"), "t.a": colOf("t", "a"), "T . B": colOf("t", "b"), "t.t": colOf("t", "t"), "count.count": colOf("count", "count"),
		"f()": call("f"), "F ( )": call("f"), "f(a)": call("f", col("a")), "f(1, 'x', NULL)": call("f", num(1), text("x"), null()), "count()": call("count"), "count(*)": call("count", star()), "COUNT ( * )": call("count", star()), "count(a, b)": call("count", col("a"), col("b")), "count(count(*))": call("count", call("count", star())),
		"f(a or b, not c)": call("f", op("or", col("a"), col("b")), op("not", col("c"))), "f((a))": call("f", col("a")), "f(g(h()))": call("f", call("g", call("h"))),
		"(a)": col("a"), "((1))": num(1), "(a or b)": op("or", col("a"), col("b")),
		" a ": col("a"), "-- x\na -- y": col("a"),
	} {
		parses(t, s, want)
	}
}

// P7.2: line 8, the sign ahead.
func TestParseSigned(t *testing.T) {
	for s, want := range map[string]api.Expr{
		"-5": num(-5), "- 5": num(-5), "-\n--x\n5": num(-5), "-0": num(0), "-9223372036854775807": num(-1<<63 + 1), "-9223372036854775808": num(-1 << 63), "(-9223372036854775808)": num(-1 << 63),
		"-(5)": op("neg", num(5)), "- - 5": op("neg", num(-5)), "- - 9223372036854775808": op("neg", num(-1<<63)), "-(-5)": op("neg", num(-5)), "- - - a": nested("neg", 3, col("a")),
		"-a": op("neg", col("a")), "-t.a": op("neg", colOf("t", "a")), "-f(1)": op("neg", call("f", num(1))), "-'5'": op("neg", text("5")), "-null": op("neg", null()), "-(a + b)": op("neg", op("+", col("a"), col("b"))),
		"a - 5": op("-", col("a"), num(5)), "a -5": op("-", col("a"), num(5)), "a-5": op("-", col("a"), num(5)), "a - -5": op("-", col("a"), num(-5)), "a - - -5": op("-", col("a"), op("neg", num(-5))), "5 - 5": op("-", num(5), num(5)), "-5 - 5": op("-", num(-5), num(5)),
		"-a * b": op("*", op("neg", col("a")), col("b")), "-5 * b": op("*", num(-5), col("b")), "a * -b": op("*", col("a"), op("neg", col("b"))), "a * -9223372036854775808": op("*", col("a"), num(-1<<63)), "a - -9223372036854775808": op("-", col("a"), num(-1<<63)), "f(-1, - 2)": call("f", num(-1), num(-2)), "a in (-1)": op("in", col("a"), num(-1)), "a = -1": op("=", col("a"), num(-1)), "not -1": op("not", num(-1)),
	} {
		parses(t, s, want)
	}
}

// P7.2: each line's words and signs; those of one line bind to the left.
func TestParseLines(t *testing.T) {
	a, b, c := col("a"), col("b"), col("c")
	for _, o := range twosOps() {
		parses(t, "a "+o+" b", op(o, a, b))
		parses(t, "A "+strings.ToUpper(o)+" B", op(o, a, b))
		parses(t, "(a "+o+" b) "+o+" c", op(o, op(o, a, b), c))
		parses(t, "a "+o+" (b "+o+" c)", op(o, a, op(o, b, c)))
	}
	parses(t, "a != b", op("<>", a, b))
	for s, want := range map[string]api.Expr{
		"a is null": op("isnull", a), "a IS NOT NULL": op("notnull", a), "null is null": op("isnull", null()),
		"a like 'x'": op("like", a, text("x")), "a not like b": op("not", op("like", a, b)),
		"a in (b)": op("in", a, b), "a in (b, c, 1)": op("in", a, b, c, num(1)), "a not in (b)": op("not", op("in", a, b)), "a in (b or c, not b)": op("in", a, op("or", b, c), op("not", b)), "a in ((b))": op("in", a, b),
		"a between b and c": op("between", a, b, c), "a not between b and c": op("not", op("between", a, b, c)), "a between 1 and 2 and c": op("and", op("between", a, num(1), num(2)), c), "c and a between 1 and 2": op("and", c, op("between", a, num(1), num(2))), "a between b + 1 and c || c or b": op("or", op("between", a, op("+", b, num(1)), op("||", c, c)), b), "a between (b and c) and c": op("between", a, op("and", b, c), c), "a between b and c and a between b and c": op("and", op("between", a, b, c), op("between", a, b, c)),
		"not a": op("not", a), "not not a": nested("not", 2, a), "not a = b": op("not", op("=", a, b)), "not a is null": op("not", op("isnull", a)), "not a not like b": nested("not", 2, op("like", a, b)), "not a and b": op("and", op("not", a), b), "not a or b": op("or", op("not", a), b), "a and not b": op("and", a, op("not", b)), "a or not not b": op("or", a, nested("not", 2, b)), "not (a or b)": op("not", op("or", a, b)),
		"a + b || c < a - b * c":         op("<", op("||", op("+", a, b), c), op("-", a, op("*", b, c))),
		"a + 1 * b < 3 OR NOT x IS NULL": op("or", op("<", op("+", a, op("*", num(1), b)), num(3)), op("not", op("isnull", col("x")))),
		"a or b and c":                   op("or", a, op("and", b, c)), "a and b or c": op("or", op("and", a, b), c), "(a or b) and c": op("and", op("or", a, b), c),
		"a || b is not null and c": op("and", op("notnull", op("||", a, b)), c), "a || b not in (c)": op("not", op("in", op("||", a, b), c)), "a in (b) or c": op("or", op("in", a, b), c), "a in (b) and c = a": op("and", op("in", a, b), op("=", c, a)),
		"(a = b) = c": op("=", op("=", a, b), c), "a = (b = c)": op("=", a, op("=", b, c)), "(a is null) is null": nested("isnull", 2, a), "(not a) = b": op("=", op("not", a), b), "a = (not b)": op("=", a, op("not", b)), "a + (not b)": op("+", a, op("not", b)), "(a in (b)) in (c)": op("in", op("in", a, b), c),
	} {
		parses(t, s, want)
	}
}

// P7.2: two signs behind one another, by how strongly they bind.
func TestParseTwo(t *testing.T) {
	line := map[string]int{"or": 1, "and": 2, "||": 5, "+": 6, "-": 6, "*": 7, "/": 7, "%": 7}
	a, b, c := col("a"), col("b"), col("c")
	for _, o := range twosOps() {
		for _, p := range twosOps() {
			s := "a " + o + " b " + p + " c"
			weak, strong := line[o], line[p]
			if weak == 0 {
				weak = 4
			}
			if strong == 0 {
				strong = 4
			}
			switch {
			case weak == 4 && strong == 4:
				refuses(t, s, len("a "+o+" b "), api.ErrSyntax)
			case weak >= strong:
				parses(t, s, op(p, op(o, a, b), c))
			default:
				parses(t, s, op(o, a, op(p, b, c)))
			}
		}
	}
}

// P7.2: the token that does not go.
func TestParseSyntax(t *testing.T) {
	for s, place := range map[string]int{
		"": 0, "  ": 2, "-- a": 4, "a <": 3, "a < ": 4, "a b": 2, "(a": 2, "(a b)": 3, "()": 1, ")": 0, "a)": 1, "(a))": 3, "a,b": 1, "a;": 1, ";": 0, ",": 0, ".a": 0, "*": 0, "+a": 0, "= a": 0, "a..b": 2, "a. .b": 3, "a.": 2, "a.1": 2, "a.select": 2, "a.'b'": 2, "a.*": 2, "a.b.c": 3, "a.b(c)": 3, "a.b()": 3, "1.a": 1, "1(a)": 1, "'f'()": 3, "null()": 4, "null.a": 4, "true.a": 4, "a.null": 2,
		"a or": 4, "a and": 5, "or": 0, "a or or b": 5, "a and or b": 6, "a or and b": 5, "not": 3, "not or": 4, "not = a": 4, "a = = b": 4, "a < > b": 4, "a + * b": 4, "a * / b": 4, "a || || b": 5, "a ||": 4, "a *": 3, "a -": 3, "-": 1, "- -": 3, "- not a": 2, "-)": 1, "- + a": 2,
		"a = b = c": 6, "a = b < c": 6, "a is null is null": 10, "a = b is null": 6, "a is null = b": 10, "a is null + b": 10, "a is not null || b": 14, "a in (b) in (c)": 9, "a in (b) + c": 9, "a in (b) * c": 9, "a like b like c": 9, "a between b and c = a": 18, "a between b and c between a and b": 18, "a = b not like c": 6, "a is null not in (b)": 10, "a not like b = c": 13, "a = b between c and a": 6, "a = b in (c)": 6, "a is null is not null": 10, "not a = b = c": 10, "not a is null is null": 14,
		"a is": 4, "a is 1": 5, "a is b": 5, "a is true": 5, "a is not": 8, "a is not 1": 9, "a is not true": 9, "a is not not null": 9, "a is (null)": 5, "a isnull": 2, "a notnull": 2, "is null": 0,
		"a not": 5, "a not b": 6, "a not null": 6, "a not = b": 6, "a not not like b": 6, "a not is null": 6, "a not and b": 6, "a not (b)": 6, "a + not b": 4, "a = not b": 4, "a || not b": 5, "a like not b": 7, "a between not b and c": 10, "a between b and not c": 16, "not a not": 9,
		"a in": 4, "a in b": 5, "a in 1": 5, "a in ()": 6, "a in (": 6, "a in (b": 7, "a in (b,": 8, "a in (b,)": 8, "a in (,b)": 6, "a in (b c)": 8, "a in (b;": 7, "a not in": 8, "a not in b": 9, "a in (*)": 6, "a in (select": 6, "a in not (b)": 5,
		"a like": 6, "a like = b": 7, "like 'x'": 0, "a not like": 10,
		"a between": 9, "a between 1": 11, "a between 1 or 2": 12, "a between 1 and": 15, "a between 1 and or": 16, "a between 1, 2": 11, "a between b = c and d": 12, "a between b is null and c": 12, "a between (1 and 2)": 19, "a between 1 between 2 and 3": 12, "between 1 and 2": 0,
		"f(": 2, "f(a": 3, "f(a,": 4, "f(,)": 2, "f(a,)": 4, "f(a b)": 4, "f(a;": 3, "f a": 2, "f()()": 3, "f(a).b": 4, "f(*)": 2, "sum(*)": 4, "counts(*)": 7, "count(*": 7, "count(* ": 8, "count(*, a)": 7, "count(a, *)": 9, "count(**)": 7, "count(* a)": 8, "count(*)(*)": 8, "count((*))": 7, "count(*.a)": 7, "t.count(*)": 7, "(count)(*)": 7, "count(distinct a)": 6,
		"9223372036854775808": 0, "a - 9223372036854775808": 4, "-(9223372036854775808)": 2, "(9223372036854775808)": 1, "f(9223372036854775808)": 2, "9223372036854775808 + a": 0, "a + 9223372036854775808": 4, "5 9223372036854775808": 2, "- 9223372036854775808 9223372036854775808": 22,
		"select": 0, "select 1": 0, "(select 1)": 1, "exists (a)": 0, "case a": 0, "left(a)": 0, "values(a)": 0, "a as b": 2, "a asc": 2, "int": 0, "a from b": 2, "1 2": 2, "1 'a'": 2, "'a' 'b'": 4, "x'00' x'00'": 6, "a 1": 2, "null null": 5, "all": 0, "distinct a": 0,
	} {
		refuses(t, s, place, api.ErrSyntax)
		refuses(t, "zz or "+s, place+6, api.ErrSyntax)
	}
	for _, s := range strings.Fields("all and as asc begin between blob bool by case commit create cross delete desc distinct drop except exists from full group having in index inner insert int intersect into is join key left like limit not offset on or order outer primary right rollback select set table text union unique update using values where") {
		refuses(t, "(1 + "+s+" )", 5, api.ErrSyntax)
		refuses(t, "t."+s, 2, api.ErrSyntax)
		refuses(t, "- "+s+".a", 2, api.ErrSyntax)
		refuses(t, "- "+s+"(a)", 2, api.ErrSyntax)
	}
}

// P7.2: token's errors, and their places.
func TestParseTokens(t *testing.T) {
	refuses(t, "a ! b", 2, api.ErrToken)
	refuses(t, "a b 12c", 4, api.ErrToken)
	refuses(t, ") 'x", 2, api.ErrToken)
	refuses(t, strings.Repeat("not ", 50)+"?", 200, api.ErrToken)
	refuses(t, strings.Repeat("n", 33), 0, api.ErrToken)
	refuses(t, strings.Repeat(" ", 4097), 0, api.ErrLong)
	refuses(t, "a"+strings.Repeat(" ", 4096), 0, api.ErrLong)
	refuses(t, "?"+strings.Repeat(" ", 4096), 0, api.ErrLong)
	parses(t, "a"+strings.Repeat(" ", 4095), col("a"))
	refuses(t, strings.Repeat(" ", 4096), 4096, api.ErrSyntax)
}

// P7.2: too deep is told only where the whole goes, and at its first token.
func TestParseDeep(t *testing.T) {
	parses(t, strings.Repeat("not ", 39)+"a", nested("not", 39, col("a")))
	refuses(t, strings.Repeat("not ", 40)+"a", 0, api.ErrDeep)
	refuses(t, "  "+strings.Repeat("not ", 40)+"a", 2, api.ErrDeep)
	refuses(t, "a + "+strings.Repeat("- ", 39)+"b", 0, api.ErrDeep)
	refuses(t, strings.Repeat("not ", 40)+"a b", 0, api.ErrDeep)
	refuses(t, strings.Repeat("not ", 40)+"a)", 0, api.ErrDeep)
	refuses(t, strings.Repeat("not ", 40), 160, api.ErrSyntax)
	refuses(t, "("+strings.Repeat("not ", 40)+"a b)", 163, api.ErrSyntax)
	refuses(t, strings.Repeat("not ", 40)+"a or", 164, api.ErrSyntax)
	refuses(t, strings.Repeat("not ", 40)+"a or a = )", 169, api.ErrSyntax)
	refuses(t, strings.Repeat("not ", 40)+"a or b", 0, api.ErrDeep)
	refuses(t, "f("+strings.Repeat("not ", 40)+"a, b, (c))", 0, api.ErrDeep)
	refuses(t, "f(b, "+strings.Repeat("not ", 39)+"a)", 0, api.ErrDeep)
	refuses(t, "a in (b, "+strings.Repeat("not ", 39)+"a)", 0, api.ErrDeep)
	refuses(t, "a between 1 and "+strings.Repeat("- ", 39)+"a", 0, api.ErrDeep)
	refuses(t, "a not like "+strings.Repeat("- ", 38)+"a", 0, api.ErrDeep)
	refuses(t, "("+strings.Repeat("- ", 39)+"a) is null", 0, api.ErrDeep)
	refuses(t, strings.Repeat("- ", 39)+"count(*)", 0, api.ErrDeep)
	for _, o := range []string{"or", "and", "||", "+", "-", "*", "/", "%"} {
		want := col("a")
		for range 39 {
			want = op(o, want, col("a"))
		}
		parses(t, "a"+strings.Repeat(" "+o+" a", 39), want)
		refuses(t, "a"+strings.Repeat(" "+o+" a", 40), 0, api.ErrDeep)
		refuses(t, "a"+strings.Repeat(" "+o+" a", 500), 0, api.ErrDeep)
		parses(t, strings.Repeat("(a "+o+" ", 39)+"a"+strings.Repeat(")", 39), toTheRight(o, 39))
	}
	parses(t, "-"+strings.Repeat(" -", 38)+" 5", nested("neg", 38, num(-5)))
	parses(t, strings.Repeat("- ", 40)+"5", nested("neg", 39, num(-5)))
	refuses(t, strings.Repeat("- ", 41)+"5", 0, api.ErrDeep)
	parses(t, strings.Repeat("f(", 39)+"a"+strings.Repeat(")", 39), nestedCall(39))
	refuses(t, strings.Repeat("f(", 40)+"a"+strings.Repeat(")", 40), 0, api.ErrDeep)
	parses(t, strings.Repeat("f(", 40)+strings.Repeat(")", 40), call("f", nestedCallOf(38, call("f"))))
	refuses(t, strings.Repeat("f(", 41)+strings.Repeat(")", 41), 0, api.ErrDeep)
}

// toTheRight is an Op so often, bound to the right.
func toTheRight(o string, many int) api.Expr {
	e := col("a")
	for range many {
		e = op(o, col("a"), e)
	}
	return e
}

func nestedCall(many int) api.Expr { return nestedCallOf(many, col("a")) }

func nestedCallOf(many int, e api.Expr) api.Expr {
	for range many {
		e = call("f", e)
	}
	return e
}

// P7.2, P7.4: brackets are no depth.
func TestParseBrackets(t *testing.T) {
	for _, many := range []int{1, 39, 40, 41, 300, 2047} {
		parses(t, strings.Repeat("(", many)+"a"+strings.Repeat(")", many), col("a"))
		refuses(t, strings.Repeat("(", many)+"a"+strings.Repeat(")", many-1), 2*many, api.ErrSyntax)
		refuses(t, strings.Repeat("(", many)+strings.Repeat(")", many), many, api.ErrSyntax)
	}
	refuses(t, strings.Repeat("(", 4096), 4096, api.ErrSyntax)
	refuses(t, strings.Repeat("-(", 2048), 4096, api.ErrSyntax)
	refuses(t, strings.Repeat("f(", 2048), 4096, api.ErrSyntax)
	parses(t, strings.Repeat("not (", 39)+"a"+strings.Repeat(")", 39), nested("not", 39, col("a")))
}

// P7.2: At of each place, and the place of the token behind.
func TestAt(t *testing.T) {
	reads := func(s string, i int, want api.Expr, place int) {
		t.Helper()
		if e, got, err := expr.At(cut(t, s), i); !same(e, want) || got != place || err != api.OK {
			t.Errorf("%s, %d: got %s, %d, %d, want %s, %d", s, i, shown(e), got, err, shown(want), place)
		}
	}
	fails := func(s string, i, place int, want api.Errno) {
		t.Helper()
		if e, got, err := expr.At(cut(t, s), i); !same(e, api.Expr{}) || got != place || err != want {
			t.Errorf("%s, %d: got %s, %d, %d, want %d, %d", s, i, shown(e), got, err, place, want)
		}
	}
	const s = "select a + 1, f(b) c from t where not a < 3 limit 1"
	fails(s, 0, 0, api.ErrSyntax)
	reads(s, 1, op("+", col("a"), num(1)), 4)
	fails(s, 2, 2, api.ErrSyntax)
	reads(s, 3, num(1), 4)
	fails(s, 4, 4, api.ErrSyntax)
	reads(s, 5, call("f", col("b")), 9)
	fails(s, 8, 8, api.ErrSyntax)
	reads(s, 9, col("c"), 10)
	fails(s, 10, 10, api.ErrSyntax)
	reads(s, 11, col("t"), 12)
	reads(s, 13, op("not", op("<", col("a"), num(3))), 17)
	reads(s, 14, op("<", col("a"), num(3)), 17)
	reads(s, 18, num(1), 19)
	fails(s, 19, 19, api.ErrSyntax)
	reads("a = b = c", 0, op("=", col("a"), col("b")), 3)
	reads("a is null is null", 0, op("isnull", col("a")), 3)
	reads("a = b not like c", 0, op("=", col("a"), col("b")), 3)
	reads("(a, b)", 1, col("a"), 2)
	reads("(a) , b", 0, col("a"), 3)
	reads("a ; b", 0, col("a"), 1)
	reads("a.b.c", 0, colOf("a", "b"), 3)
	reads("a.b(c)", 0, colOf("a", "b"), 3)
	reads("a b", 0, col("a"), 1)
	reads("a or b c or", 0, op("or", col("a"), col("b")), 3)
	reads("a between 1 and 2 and 3 4", 0, op("and", op("between", col("a"), num(1), num(2)), num(3)), 7)
	reads("a - 5", 1, num(-5), 3)
	fails("a not b", 0, 2, api.ErrSyntax)
	fails("a not", 0, 2, api.ErrSyntax)
	fails("a or, b", 0, 2, api.ErrSyntax)
	fails("a and from t", 0, 2, api.ErrSyntax)
	fails("1 + 9223372036854775808", 0, 2, api.ErrSyntax)
	fails("1 + 9223372036854775808", 2, 2, api.ErrSyntax)
	fails("", 0, 0, api.ErrSyntax)
	deep := "x , " + strings.Repeat("not ", 40) + "a , b"
	fails(deep, 2, 2, api.ErrDeep)
	reads(deep, 3, nested("not", 39, col("a")), 43)
	fails("x "+strings.Repeat("not ", 41)+")", 1, 42, api.ErrSyntax)
}

// P7.2, R1: At ends, and does not panic, whatever the tokens are.
func TestAtAny(t *testing.T) {
	tokens := cut(t, "f(a, -1) + 'x' not between x'00' and (b)")
	tokens = append(tokens, api.Token{}, api.Token{Kind: 9, S: "a"}, api.Token{Kind: api.TWord}, api.Token{Kind: api.TWord, S: "("}, api.Token{Kind: api.TWord, S: "A"}, api.Token{Kind: api.TSign, S: "a"}, api.Token{Kind: api.TSign, S: "or"}, api.Token{Kind: api.TSign}, api.Token{Kind: api.TInt, I: -3}, api.Token{Kind: api.TInt, S: "-"}, api.Token{Kind: api.TText, S: "or", I: 3}, api.Token{Kind: -1, I: -1, At: -1})
	var lists [][]api.Token
	lists = append(lists, nil)
	for _, a := range tokens {
		lists = append(lists, []api.Token{a})
		for _, b := range tokens {
			lists = append(lists, []api.Token{a, b})
			for _, c := range tokens {
				lists = append(lists, []api.Token{a, b, c})
			}
		}
	}
	for _, l := range lists {
		for _, i := range []int{-1 << 63, -1, 0, 1, 2, 3, 4, 1<<63 - 1} {
			kept := slices.Clone(l)
			if e, place, err := expr.At(l, i); err == api.OK {
				if expr.Check(e) != api.OK || place <= i || place > len(l) {
					t.Fatalf("%v, %d: got %s, %d", l, i, shown(e), place)
				}
			} else if !same(e, api.Expr{}) || err == api.ErrArg && place != 0 {
				t.Fatalf("%v, %d: got %s, %d", l, i, shown(e), err)
			}
			if !slices.Equal(l, kept) {
				t.Fatalf("%v became %v", kept, l)
			}
		}
	}
}

// P7.2: what a token stands for hangs on its Kind, not on its S alone.
func TestAtKinds(t *testing.T) {
	for _, s := range strings.Fields("or and not is null like in between + - * / % || = <> < <= > >= ( ) , . true a count") {
		parses(t, "'"+s+"'", text(s))
		refuses(t, "a '"+s+"' b", 2, api.ErrSyntax)
		refuses(t, "f('"+s+"' b)", 5+len(s), api.ErrSyntax)
		refuses(t, "a is '"+s+"'", 5, api.ErrSyntax)
		refuses(t, "a not '"+s+"' b", 6, api.ErrSyntax)
	}
}

// R1, R6: deep brackets, and long lists of tokens.
func TestAtLong(t *testing.T) {
	ends := func(want api.Errno, place int, pieces ...[]api.Token) {
		t.Helper()
		l := append(slices.Concat(pieces...), api.Token{Kind: api.TEnd})
		if e, got, err := expr.At(l, 0); err != want || got != place {
			t.Errorf("%d tokens: got %s, %d, %d", len(l), shown(e), got, err)
		}
	}
	of := func(s string, many int) []api.Token {
		l := cut(t, s)
		return slices.Repeat(l[:len(l)-1], many)
	}
	const many = 60000
	ends(api.OK, 2*many+1, of("(", many), of("a", 1), of(")", many))
	ends(api.ErrSyntax, 2*many, of("(", many), of("a", 1), of(")", many-1))
	ends(api.ErrSyntax, many, of("(", many))
	ends(api.ErrDeep, 0, of("not", many), of("a", 1))
	ends(api.ErrDeep, 0, of("-", many), of("a", 1))
	ends(api.ErrSyntax, many, of("not", many))
	ends(api.ErrDeep, 0, of("f(", many/4), of(")", many/4))
	ends(api.ErrDeep, 0, of("a +", many*10), of("a", 1))
	ends(api.ErrDeep, 0, of("a or b and c || d *", many/4), of("a", 1))
	ends(api.OK, 2*many+5, of("a in (b", 1), of(", a", many), of(")", 1))
	ends(api.ErrSyntax, 20*many, of("a *", 10*many))
}

// R2: what Parse and At answer is the caller's own.
func TestParseIsNew(t *testing.T) {
	const s = "f(a, count(*)) in (b, -1, t.c between 1 and 2) or not a like 'x' || b"
	l := cut(t, s)
	kept := slices.Clone(l)
	first, _, _ := expr.At(l, 0)
	want := copied(first)
	second, _, _ := expr.At(l, 0)
	third, _, _ := expr.Parse(s)
	spoil(second)
	spoil(third)
	if !same(first, want) || !slices.Equal(l, kept) {
		t.Errorf("got %s", shown(first))
	}
	clear(l)
	if !same(first, want) {
		t.Errorf("got %s", shown(first))
	}
}
