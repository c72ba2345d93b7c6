package expr_test

import (
	"strings"
	"testing"

	"boscage/api"
	"boscage/expr"
)

// checks asks what Check answers.
func checks(t *testing.T, e api.Expr, want api.Errno) {
	t.Helper()
	if got := expr.Check(e); got != want {
		t.Errorf("%s: got %d, want %d", shown(e), got, want)
	}
}

// P7.1: what may be.
func TestCheckGood(t *testing.T) {
	good := []api.Expr{num(0), num(-5), num(-1 << 63), num(1<<63 - 1), text(""), text("it's"), text("\x00\xff"), blob(""), blob("a"), null(), no(), yes(),
		col("a"), col("_"), col("count"), colOf("t", "a"), colOf("t", "t"), col(strings.Repeat("n", 32)), colOf(strings.Repeat("n", 32), "a1"),
		call("f"), call("count"), call("count", star()), call("count", num(1), num(2)), call("sum", col("a")), call(strings.Repeat("n", 32)), call("_1", null(), null(), null())}
	for _, e := range good {
		checks(t, e, api.OK)
		for _, w := range withParts(e) {
			checks(t, w, api.OK)
		}
	}
	many := make([]api.Expr, 1000)
	for i := range many {
		many[i] = num(int64(i))
	}
	checks(t, call("f", many...), api.OK)
	checks(t, op("in", many...), api.OK)
	checks(t, api.Expr{Op: "col", Name: "a", L: []api.Expr{}}, api.OK)
	checks(t, api.Expr{Op: "lit", L: []api.Expr{}}, api.OK)
	checks(t, call("count", api.Expr{Op: "star", L: []api.Expr{}}), api.OK)
	for _, e := range some(1, 3000, 6) {
		checks(t, e, api.OK)
	}
}

// P7.1: how many parts each may have.
func TestCheckParts(t *testing.T) {
	may := func(o string, many int, want bool) {
		t.Helper()
		e := op(o)
		if o == "call" || o == "col" {
			e.Name = "count"
		}
		for range many {
			e.L = append(e.L, col("a"))
		}
		if want {
			checks(t, e, api.OK)
		} else {
			checks(t, e, api.ErrArg)
			checks(t, op("not", e), api.ErrArg)
		}
	}
	for many := range 7 {
		for _, o := range onesOps() {
			may(o, many, many == 1)
		}
		for _, o := range twosOps() {
			may(o, many, many == 2)
		}
		may("between", many, many == 3)
		may("in", many, many >= 2)
		may("call", many, true)
		may("col", many, many == 0)
		may("lit", many, many == 0)
		for _, o := range []string{"", "at", "AND", "Or", "!=", "==", "&", "lt", "is", "is null", "isNull", "not null", "notin", "exists", "case", "NOT", "neg ", " neg", "LIT", "star", "func", "||||", "<=>", "+-", "(", ","} {
			may(o, many, false)
		}
	}
}

// P7.1: parts that are not named are zero.
func TestCheckZero(t *testing.T) {
	for _, e := range append(withParts(col("a")), num(1), null(), col("a"), colOf("t", "a"), call("f"), call("count", star())) {
		checks(t, e, api.OK)
		for _, v := range []api.Value{{Kind: api.Bool}, {Kind: api.Int}, {Kind: api.Text}, {Kind: api.Blob}, {I: 1}, {S: "a"}, {Kind: -1}} {
			if e.Op != "lit" {
				x := e
				x.V = v
				checks(t, x, api.ErrArg)
			}
		}
		if e.Op != "col" {
			x := e
			x.Table = "t"
			checks(t, x, api.ErrArg)
		}
		if e.Op != "col" && e.Op != "call" {
			x := e
			x.Name = "a"
			checks(t, x, api.ErrArg)
		}
	}
	for _, s := range []api.Expr{{Op: "star", Name: "a"}, {Op: "star", Table: "t"}, {Op: "star", V: api.Value{Kind: api.Int}}, {Op: "star", L: []api.Expr{num(1)}}, {Op: "star", L: []api.Expr{star()}}} {
		checks(t, s, api.ErrArg)
		checks(t, call("count", s), api.ErrArg)
	}
}

// P7.1: a lit's value, and names, are such as may be.
func TestCheckOwn(t *testing.T) {
	for _, v := range []api.Value{{Kind: 5}, {Kind: -1}, {I: 1}, {S: "a"}, {Kind: api.Bool, I: 2}, {Kind: api.Bool, I: -1}, {Kind: api.Bool, S: "a"}, {Kind: api.Int, S: "1"}, {Kind: api.Text, I: 1}, {Kind: api.Blob, I: 1}} {
		checks(t, lit(v), api.ErrArg)
	}
	for _, s := range []string{"select", "null", "true", "in", "A", "aB", "1", "1a", " a", "a ", "a.b", "*", "é", "'a'", "a\x00", strings.Repeat("n", 33)} {
		checks(t, col(s), api.ErrArg)
		checks(t, colOf(s, "a"), api.ErrArg)
		checks(t, colOf("a", s), api.ErrArg)
		checks(t, call(s), api.ErrArg)
		checks(t, call(s, star()), api.ErrArg)
		checks(t, op("not", col(s)), api.ErrArg)
	}
	checks(t, col(""), api.ErrArg)
	checks(t, colOf("t", ""), api.ErrArg)
	checks(t, call(""), api.ErrArg)
	checks(t, call("", num(1)), api.ErrArg)
}

// P7.1: a star stands in a call of count alone, as the only one.
func TestCheckStar(t *testing.T) {
	checks(t, call("count", star()), api.OK)
	for _, e := range []api.Expr{star(), call("sum", star()), call("counts", star()), call("coun", star()), call("min", star()), call("Count", star()), call("count", star(), star()), call("count", star(), num(1)), call("count", num(1), star()), call("count", call("f", star())), {Op: "call", Table: "t", Name: "count", L: []api.Expr{star()}}} {
		checks(t, e, api.ErrArg)
		checks(t, op("isnull", e), api.ErrArg)
	}
	for _, e := range withParts(star()) {
		if e.Op == "call" && e.Name == "count" {
			checks(t, e, api.OK)
		} else {
			checks(t, e, api.ErrArg)
		}
	}
}

// P7.1: a fault wherever it stands, and however deep; ErrArg goes ahead of ErrDeep.
func TestCheckInside(t *testing.T) {
	for _, bad := range []api.Expr{{}, star(), op("and"), col("select"), lit(api.Value{Kind: 9}), op("at"), {Op: "lit", Name: "a"}} {
		for _, e := range withParts(bad) {
			if e.Op != "call" || e.Name != "count" || bad.Op != "star" {
				checks(t, e, api.ErrArg)
			}
		}
		for _, many := range []int{1, 38, 39, 40, 41, 100, 60000} {
			if expr.Check(nested("neg", many, bad)) != api.ErrArg {
				t.Errorf("%d around %s: no ErrArg", many, shown(bad))
			}
			if expr.Check(op("and", nested("not", many, num(1)), bad)) != api.ErrArg || expr.Check(op("and", bad, nested("not", many, num(1)))) != api.ErrArg {
				t.Errorf("%d beside %s: no ErrArg", many, shown(bad))
			}
		}
	}
	checks(t, op("or", num(1), nested("isnull", 100, op("is", num(1)))), api.ErrArg)
	checks(t, api.Expr{Op: "not", Name: "a", L: []api.Expr{nested("not", 100, num(1))}}, api.ErrArg)
}

// P7.1: the depth, up to 40.
func TestCheckDeep(t *testing.T) {
	for _, o := range onesOps() {
		checks(t, nested(o, 39, col("a")), api.OK)
		checks(t, nested(o, 40, col("a")), api.ErrDeep)
	}
	checks(t, nested("not", 38, call("count", star())), api.OK)
	checks(t, nested("not", 39, call("count", star())), api.ErrDeep)
	for _, e := range withParts(nested("neg", 38, num(1))) {
		checks(t, e, api.OK)
	}
	for _, e := range withParts(nested("neg", 39, num(1))) {
		checks(t, e, api.ErrDeep)
	}
	checks(t, nested("not", 60000, num(1)), api.ErrDeep)
}

// P7.1: Same tells all parts apart.
func TestSame(t *testing.T) {
	sames := func(a, b api.Expr, want bool) {
		t.Helper()
		if expr.Same(a, b) != want || expr.Same(b, a) != want || !expr.Same(a, a) {
			t.Errorf("%s and %s: want %v", shown(a), shown(b), want)
		}
	}
	full := api.Expr{Op: "x", V: api.Value{Kind: 7, I: 8, S: "s"}, Table: "t", Name: "n", L: []api.Expr{num(1), {Op: "y", Name: "m", L: []api.Expr{{Table: "u"}}}}}
	sames(full, copied(full), true)
	for _, change := range []func(e *api.Expr){
		func(e *api.Expr) { e.Op = "y" },
		func(e *api.Expr) { e.Op = "X" },
		func(e *api.Expr) { e.V.Kind = 6 },
		func(e *api.Expr) { e.V.I = 9 },
		func(e *api.Expr) { e.V.S = "t" },
		func(e *api.Expr) { e.Table = "" },
		func(e *api.Expr) { e.Name = "N" },
		func(e *api.Expr) { e.Table, e.Name = e.Name, e.Table },
		func(e *api.Expr) { e.L = nil },
		func(e *api.Expr) { e.L = e.L[:1] },
		func(e *api.Expr) { e.L = append(e.L, api.Expr{}) },
		func(e *api.Expr) { e.L[0], e.L[1] = e.L[1], e.L[0] },
		func(e *api.Expr) { e.L[0].V.I = 2 },
		func(e *api.Expr) { e.L[1].Name = "" },
		func(e *api.Expr) { e.L[1].L = nil },
		func(e *api.Expr) { e.L[1].L[0].Table = "v" },
		func(e *api.Expr) { e.L[1].L[0].L = []api.Expr{{}} },
	} {
		other := copied(full)
		change(&other)
		sames(full, other, false)
		sames(op("not", full), op("not", other), false)
	}
	sames(api.Expr{}, api.Expr{L: []api.Expr{}}, true)
	sames(call("f"), api.Expr{Op: "call", Name: "f", L: []api.Expr{}}, true)
	sames(api.Expr{}, api.Expr{Op: "lit"}, false)
	sames(nested("not", 60000, num(1)), nested("not", 60000, num(1)), true)
	sames(nested("not", 60000, num(1)), nested("not", 60000, num(2)), false)
	sames(nested("not", 60000, num(1)), nested("not", 59999, num(1)), false)
	l := some(2, 300, 4)
	for i, a := range l {
		for j := range i {
			if expr.Same(a, l[j]) != same(a, l[j]) {
				t.Fatalf("%s and %s: got %v", shown(a), shown(l[j]), !same(a, l[j]))
			}
		}
	}
}

// P7.1: the depth, of any expressions.
func TestDeep(t *testing.T) {
	deeps := func(e api.Expr, want int) {
		t.Helper()
		if got := expr.Deep(e); got != want {
			t.Errorf("%s: got %d, want %d", shown(e), got, want)
		}
	}
	deeps(api.Expr{}, 1)
	deeps(api.Expr{L: []api.Expr{}}, 1)
	deeps(num(1), 1)
	deeps(call("f"), 1)
	deeps(call("count", star()), 2)
	deeps(op("no such"), 1)
	deeps(api.Expr{Op: "lit", L: []api.Expr{{L: []api.Expr{{}}}}}, 3)
	deep := nested("not", 9, col("a"))
	deeps(deep, 10)
	deeps(op("in", deep, num(1), num(2)), 11)
	deeps(op("in", num(1), deep, num(2)), 11)
	deeps(op("in", num(1), num(2), deep), 11)
	deeps(op("in", deep, op("not", deep), num(2), deep), 12)
	for _, many := range []int{39, 40, 41, 1000, 60000} {
		if got := expr.Deep(nested("x", many, api.Expr{})); got != many+1 {
			t.Errorf("got %d, want %d", got, many+1)
		}
	}
}

// R2: what is handed in stays as it is.
func TestNothingChanges(t *testing.T) {
	for _, e := range some(3, 500, 6) {
		kept := copied(e)
		expr.Check(e)
		expr.Same(e, e)
		expr.Deep(e)
		expr.Cols(e)
		expr.Text(e)
		if !same(e, kept) {
			t.Fatalf("%s became %s", shown(kept), shown(e))
		}
	}
}
