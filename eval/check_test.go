package eval_test

import (
	"math"
	"math/rand"
	"slices"
	"strings"
	"testing"

	"boscage/api"
	"boscage/eval"
	"boscage/expr"
)

// checks asks what Check answers, and that it changes nothing.
func checks(t *testing.T, e api.Expr, wide int, want api.Errno) {
	t.Helper()
	before := copied(e)
	if got := eval.Check(e, wide); got != want {
		t.Fatalf("%s within %d: got %d, want %d", shown(e), wide, got, want)
	}
	if !same(e, before) {
		t.Fatalf("%s was changed", shown(before))
	}
}

// P10.1: what is bound, within so many.
func TestCheckGood(t *testing.T) {
	good := append(lits(some()...), at(0), at(2), call("f"), call("coalesce"), call("counts", at(1)), call("a", at(0), lit(null())), call(strings.Repeat("n", 32)), call("avg", at(0)), call("_1", at(0)))
	for _, e := range good {
		checks(t, e, 3, api.OK)
		for _, w := range withPart(e) {
			checks(t, w, 3, api.OK)
		}
	}
	checks(t, call("f", ats(1000)...), 1000, api.OK)
	checks(t, op("in", ats(1000)...), 1000, api.OK)
	checks(t, op("in", ats(1000)...), 999, api.ErrArg)
	checks(t, api.Expr{Op: "at", V: num(0), L: []api.Expr{}}, 1, api.OK)
	for _, e := range newMaker(1).anyOf(3000, 6) {
		checks(t, e, 6, api.OK)
	}
}

// P10.1: a place is within, if it is from 0 on, and below wide; without a place any wide will do.
func TestCheckWide(t *testing.T) {
	edges := []int64{least, least + 1, -1 << 32, -2, -1, 0, 1, 2, 3, 15, 16, 63, 64, 65, 1 << 31, 1 << 32, 1<<32 + 1, most - 1, most}
	for _, place := range edges {
		for _, wide := range edges {
			want := api.ErrArg
			if place >= 0 && place < wide {
				want = api.OK
			}
			checks(t, at(place), int(wide), want)
			for _, e := range withPart(at(place)) {
				if wide > 0 { // the others of these have a place 0
					checks(t, e, int(wide), want)
				}
			}
		}
	}
	for _, wide := range edges {
		checks(t, lit(null()), int(wide), api.OK)
		checks(t, op("+", lit(num(1)), call("f")), int(wide), api.OK)
		checks(t, fails(), int(wide), api.OK)
		checks(t, nested("not", 40, lit(yes())), int(wide), api.ErrDeep)
		checks(t, api.Expr{}, int(wide), api.ErrArg)
	}
	checks(t, op("+", at(0), at(3)), 3, api.ErrArg)
	checks(t, op("+", at(3), at(0)), 3, api.ErrArg)
	checks(t, op("+", at(2), at(3)), 4, api.OK)
}

// P10.1: an at has an Int, and nothing besides.
func TestCheckAt(t *testing.T) {
	bad := []api.Expr{{Op: "at"}, {Op: "At", V: num(0)}, {Op: "at ", V: num(0)}, {Op: "at", V: num(0), Table: "t"}, {Op: "at", V: num(0), Name: "a"}, {Op: "at", V: num(0), Table: "t", Name: "a"}, op("at"), op("at", at(0)), op("at", lit(num(0)))}
	for _, l := range [][]api.Expr{{at(0)}, {lit(num(1))}, {{}}, {at(0), at(0)}} {
		bad = append(bad, api.Expr{Op: "at", V: num(0), L: l})
	}
	for _, kind := range []int{-1, api.Null, api.Bool, api.Text, api.Blob, 5, 1 << 32, 1<<32 + 2} {
		bad = append(bad, api.Expr{Op: "at", V: api.Value{Kind: kind}}, api.Expr{Op: "at", V: api.Value{Kind: kind, I: 1}})
	}
	for _, s := range []string{"0", "a", "\x00"} {
		bad = append(bad, api.Expr{Op: "at", V: api.Value{Kind: api.Int, S: s}})
	}
	for _, e := range bad {
		checks(t, e, 3, api.ErrArg)
		checks(t, e, math.MaxInt, api.ErrArg)
		for _, w := range withPart(e) {
			checks(t, w, 3, api.ErrArg)
		}
	}
}

// P10.1: no col, no star, and none of the four aggregates, whatever their parts are.
func TestCheckUnbound(t *testing.T) {
	star := api.Expr{Op: "star"}
	bad := []api.Expr{{Op: "col", Name: "a"}, {Op: "col", Table: "t", Name: "a"}, {Op: "col"}, {Op: "col", V: num(0)}, star, {Op: "star", V: num(0)}, call("f", star)}
	for _, name := range []string{"count", "sum", "min", "max"} {
		bad = append(bad, call(name), call(name, star), call(name, at(0)), call(name, lit(num(1))), call(name, at(0), at(1)), call(name, call(name, at(0))))
		for _, near := range []string{name + "s", name + "_", "x" + name, name[:len(name)-1]} {
			checks(t, call(near, at(0)), 3, api.OK)
			bad = append(bad, call(near, star))
		}
		bad = append(bad, call(strings.ToUpper(name), at(0)), call(name+" ", at(0)))
	}
	for _, e := range bad {
		checks(t, e, 3, api.ErrArg)
		for _, w := range withPart(e) {
			checks(t, w, 3, api.ErrArg)
		}
	}
}

// unlike tells whether an expression has what none that is bound has.
func unlike(e api.Expr) bool {
	return e.Op == "col" || e.Op == "call" && slices.Contains([]string{"count", "sum", "min", "max"}, e.Name) || slices.ContainsFunc(e.L, unlike)
}

// named is an expression with a col in the place of each at within 3.
func named(e api.Expr) api.Expr {
	for place := range int64(3) {
		if same(e, at(place)) {
			return api.Expr{Op: "col", Name: "a"}
		}
	}
	e.L = slices.Clone(e.L)
	for i := range e.L {
		e.L[i] = named(e.L[i])
	}
	return e
}

// P10.1: all else is as of expr.
func TestCheckAsExpr(t *testing.T) {
	r := rand.New(rand.NewSource(2))
	good := 0
	for range 50000 {
		e := anything(r, 1+r.Intn(3))
		want := api.ErrArg
		if !unlike(e) {
			want = expr.Check(named(e))
		}
		if want == api.OK {
			good++
		}
		checks(t, e, 3, want)
	}
	if good < 1000 {
		t.Errorf("only %d", good)
	}
	for _, e := range []api.Expr{op("and"), op("and", at(0)), op("and", at(0), at(0), at(0)), op("not"), op("not", at(0), at(0)), op("in", at(0)), op("between", at(0), at(0)), op("x", at(0)), op("", at(0)), call("", at(0)), call("select", at(0)), call("a.b"), {Op: "not", V: num(0), L: ats(1)}, {Op: "not", Name: "a", L: ats(1)}, {Op: "+", Table: "t", L: ats(2)}, {Op: "lit", V: num(1), L: ats(1)}, {Op: "lit", V: num(1), Name: "a"}, {Op: "call", Name: "f", Table: "t", L: ats(1)}, lit(api.Value{Kind: 5}), lit(api.Value{I: 1}), lit(api.Value{Kind: api.Bool, I: 2})} {
		checks(t, e, 3, api.ErrArg)
		for _, w := range withPart(e) {
			checks(t, w, 3, api.ErrArg)
		}
	}
}

// P10.1: the depth, up to 40; ErrArg goes ahead of ErrDeep, wherever it is.
func TestCheckDeep(t *testing.T) {
	for _, o := range onesOps() {
		for _, leaf := range []api.Expr{at(0), lit(num(1)), call("f")} {
			checks(t, nested(o, 39, leaf), 1, api.OK)
			checks(t, nested(o, 40, leaf), 1, api.ErrDeep)
			checks(t, nested(o, 1000, leaf), 1, api.ErrDeep)
		}
		for _, bad := range []api.Expr{at(1), at(-1), {Op: "col", Name: "a"}, call("sum", at(0)), {Op: "star"}, {}, {Op: "at", V: num(0), L: ats(1)}} {
			for _, many := range []int{39, 40, 1000} {
				checks(t, nested(o, many, bad), 1, api.ErrArg)
				checks(t, op("and", nested(o, many, at(0)), bad), 1, api.ErrArg)
				checks(t, op("and", bad, nested(o, many, at(0))), 1, api.ErrArg)
			}
		}
	}
	checks(t, nested("not", 60000, at(0)), 1, api.ErrDeep)
	checks(t, nested("not", 60000, at(1)), 1, api.ErrArg)
	checks(t, call("max", nested("not", 40, at(0))), 1, api.ErrArg)
	for _, e := range withPart(nested("neg", 38, at(1))) {
		checks(t, e, 2, api.OK)
		checks(t, e, 1, api.ErrArg)
	}
	for _, e := range withPart(nested("neg", 39, at(1))) {
		checks(t, e, 2, api.ErrDeep)
		checks(t, e, 1, api.ErrArg)
	}
}
