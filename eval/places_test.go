package eval_test

import (
	"maps"
	"math/rand"
	"slices"
	"testing"

	"boscage/api"
	"boscage/eval"
)

// uses asks what Uses answers, and that it changes nothing.
func uses(t *testing.T, e api.Expr, want ...int) {
	t.Helper()
	before := copied(e)
	if got := eval.Uses(e); !slices.Equal(got, want) {
		t.Fatalf("%s: got %v, want %v", shown(e), got, want)
	}
	if !same(e, before) {
		t.Fatalf("%s was changed", shown(before))
	}
}

// moves asks what Move answers, and that it changes nothing.
func moves(t *testing.T, e api.Expr, by int, want api.Expr) {
	t.Helper()
	before := copied(e)
	if got := eval.Move(e, by); !same(got, want) {
		t.Fatalf("%s by %d: got %s, want %s", shown(e), by, shown(got), shown(want))
	}
	if !same(e, before) {
		t.Fatalf("%s was changed", shown(before))
	}
}

// kinded is an at whose place is no Int's.
func kinded(kind int, place int64, l ...api.Expr) api.Expr {
	return api.Expr{Op: "at", V: api.Value{Kind: kind, I: place, S: "s"}, Table: "t", Name: "n", L: l}
}

// P10.4: the places, rising, each once.
func TestUses(t *testing.T) {
	uses(t, lit(num(3)))
	uses(t, call("f"))
	uses(t, at(3), 3)
	uses(t, op("+", at(1), at(0)), 0, 1)
	uses(t, op("+", at(1), at(1)), 1)
	uses(t, op("in", at(9), at(10), at(2), at(9), lit(num(4)), at(1)), 1, 2, 9, 10)
	uses(t, op("between", call("f", at(7), op("neg", at(3))), at(5), op("not", at(3))), 3, 5, 7)
	uses(t, op("and", at(most), op("and", at(least), at(-1))), least, -1, most)
	for _, e := range withPart(at(40)) {
		if got := eval.Uses(e); !slices.Contains(got, 40) || got[0] != 0 && len(got) != 1 {
			t.Errorf("%s: got %v", shown(e), got)
		}
	}
	uses(t, nested("neg", 60000, op("+", at(2), at(1))), 1, 2)
	var parts []api.Expr
	var want []int
	for i := range 20000 {
		want = append(want, i-500)
		parts = append(parts, at(int64(19499-i)), at(int64(i/2)))
	}
	uses(t, call("f", parts...), want...)
}

// P10.4: Uses of any expressions: of every at, whatever V's Kind is, also within another one.
func TestUsesOfAny(t *testing.T) {
	for _, kind := range []int{-1, api.Null, api.Bool, api.Text, 9} {
		uses(t, kinded(kind, 5), 5)
		uses(t, op("?", kinded(kind, 5), at(4)), 4, 5)
	}
	uses(t, kinded(api.Int, 5, at(3), op("x", kinded(0, 4, at(1)))), 1, 3, 4, 5)
	uses(t, api.Expr{Op: "at"}, 0)
	uses(t, api.Expr{Op: "lit", V: num(4), L: []api.Expr{at(3)}}, 3)
	uses(t, api.Expr{Op: "col", Name: "at", L: []api.Expr{at(3)}}, 3)
	uses(t, call("count", api.Expr{Op: "star", L: ats(2)}), 0, 1)
	uses(t, api.Expr{})
	uses(t, api.Expr{Op: "AT", V: num(1), Name: "at"})
	uses(t, nested("at", 60000, at(7)), 0, 7)
	r := rand.New(rand.NewSource(7))
	for range 50000 {
		e := anything(r, 1+r.Intn(5))
		uses(t, e, plainUses(e)...)
	}
}

func plainUses(e api.Expr) []int {
	found := map[int]int{}
	todo := []api.Expr{e}
	for len(todo) > 0 {
		e, todo = todo[0], append(todo[1:], todo[0].L...)
		if e.Op == "at" {
			found[int(e.V.I)]++
		}
	}
	return slices.Sorted(maps.Keys(found))
}

// P10.4: each place is moved, in 64 bits, going round.
func TestMove(t *testing.T) {
	moves(t, lit(num(3)), 5, lit(num(3)))
	moves(t, at(3), 5, at(8))
	moves(t, at(3), 0, at(3))
	moves(t, at(3), -3, at(0))
	moves(t, at(3), -4, at(-1))
	moves(t, at(most), 1, at(least))
	moves(t, at(least), -1, at(most))
	moves(t, at(most), most, at(-2))
	moves(t, at(least), least, at(0))
	moves(t, op("+", at(0), op("*", at(1), lit(num(1)))), 2, op("+", at(2), op("*", at(3), lit(num(1)))))
	moves(t, op("in", at(0), lit(num(0)), at(0), call("f", at(7))), 10, op("in", at(10), lit(num(0)), at(10), call("f", at(17))))
	for _, e := range withPart(at(5)) {
		want := eval.Uses(e)
		for i := range want {
			want[i]++
		}
		moved := eval.Move(e, 1)
		uses(t, moved, want...)
		moves(t, moved, -1, e)
	}
	moves(t, nested("neg", 60000, at(2)), 3, nested("neg", 60000, at(5)))
	moves(t, op("in", ats(20000)...), 7, op("in", ats(20007)[7:]...))
}

// P10.4: Move of any expressions: whatever V's Kind is; what stands in an at stays, and all else.
func TestMoveOfAny(t *testing.T) {
	for _, kind := range []int{-1, api.Null, api.Bool, api.Text, 9} {
		moves(t, kinded(kind, 5), 2, kinded(kind, 7))
		moves(t, op("?", kinded(kind, 5), at(4)), -4, op("?", kinded(kind, 1), at(0)))
	}
	inner := []api.Expr{at(3), op("x", kinded(0, 4, at(1))), lit(num(1))}
	moves(t, kinded(api.Int, 5, inner...), 2, kinded(api.Int, 7, inner...))
	moves(t, op("not", kinded(api.Int, 5, inner...)), most, op("not", kinded(api.Int, least+4, inner...)))
	moves(t, nested("at", 60000, at(7)), 3, api.Expr{Op: "at", V: api.Value{I: 3}, L: []api.Expr{nested("at", 59999, at(7))}})
	moves(t, api.Expr{}, 3, api.Expr{})
	moves(t, api.Expr{Op: "AT", V: num(1), Name: "at"}, 3, api.Expr{Op: "AT", V: num(1), Name: "at"})
	moves(t, api.Expr{Op: "col", V: num(1), Table: "t", Name: "at", L: ats(2)}, 3, api.Expr{Op: "col", V: num(1), Table: "t", Name: "at", L: ats(5)[3:]})
	r := rand.New(rand.NewSource(8))
	for range 50000 {
		e := anything(r, 1+r.Intn(5))
		by := []int{0, 1, -1, 5, most, least}[r.Intn(6)]
		want := copied(e)
		plainMove(&want, by)
		moves(t, e, by, want)
		moves(t, want, -by, e)
	}
}

func plainMove(e *api.Expr, by int) {
	if e.Op == "at" {
		e.V.I += int64(by)
		return
	}
	for i := range e.L {
		plainMove(&e.L[i], by)
	}
}

// P10.5: Eval hangs on the places in Uses alone.
func TestEvalHangsOnUses(t *testing.T) {
	m := newMaker(9)
	for _, e := range m.anyOf(20000, 6) {
		used := eval.Uses(e)
		for range 3 {
			r := m.row()
			want, err := eval.Eval(e, r)
			for place := range r {
				if !slices.Contains(used, place) {
					r[place] = some()[m.r.Intn(len(some()))]
				}
			}
			evals(t, e, r, want, err)
			evals(t, e, append(r, some()...), want, err)
			last := 0
			if len(used) > 0 {
				last = used[len(used)-1] + 1
			}
			evals(t, e, r[:last], want, err)
		}
	}
}

// P10.5: of a row with by more values ahead Move has the value, and the error.
func TestEvalMoved(t *testing.T) {
	m := newMaker(10)
	for _, e := range m.anyOf(20000, 6) {
		by := m.r.Intn(5)
		ahead := some()[m.r.Intn(8):][:by]
		moved := eval.Move(e, by)
		if eval.Check(moved, 6+by) != api.OK {
			t.Fatalf("%s by %d: got %s", shown(e), by, shown(moved))
		}
		for range 3 {
			r := m.row()
			want, err := eval.Eval(e, r)
			evals(t, moved, slices.Concat(ahead, r), want, err)
		}
	}
}

// R2: what Uses and Move answer is the caller's own.
func TestPlacesAreNew(t *testing.T) {
	shared := op("+", at(0), kinded(api.Int, 5, op("not", at(1))))
	e := op("=", shared, kinded(api.Int, 2, shared))
	before := copied(e)
	first := eval.Move(e, 1)
	want := copied(first)
	spoil(eval.Move(e, 1))
	if !same(e, before) || !same(first, want) {
		t.Errorf("got %s and %s", shown(e), shown(first))
	}
	spoil(first.L[0])
	if !same(first.L[1], want.L[1]) {
		t.Errorf("got %s", shown(first))
	}
	first = eval.Move(e, 1)
	places := eval.Uses(e)
	places[0] = 77
	uses(t, e, 0, 1, 2, 5)
	spoil(e)
	if !same(first, want) {
		t.Errorf("got %s", shown(first))
	}
}
