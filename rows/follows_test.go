package rows_test

import (
	"reflect"
	"slices"
	"testing"

	"boscage/api"
	"boscage/rows"
	"boscage/value"
)

// turned is an expression of b's values behind a's, put for a's behind b's.
func turned(e api.Expr, wa, wb int) api.Expr {
	if e.Op == "at" {
		return at((int(e.V.I) + wb) % (wa + wb))
	}
	e.L = slices.Clone(e.L)
	for i := range e.L {
		e.L[i] = turned(e.L[i], wa, wb)
	}
	return e
}

// P11.6: an inner Join is a Filter of the cross one, also where there is an error; left and right are turned round.
func TestJoinFollows(t *testing.T) {
	m := newMaker(8)
	told := 0
	for range 20000 {
		wa, wb := m.Intn(3), m.Intn(3)
		a, b := m.rows(6, wa), m.rows(6, wb)
		on := m.condition(wa + wb)
		inner, err := rows.Join("inner", a, b, wa, wb, on)
		cross, other := rows.Join("cross", a, b, wa, wb, on)
		if other != api.OK || len(cross) != len(a)*len(b) {
			t.Fatalf("got %s, %d", shown(cross), other)
		}
		if l, e := rows.Filter(cross, on); !same(l, inner) || e != err {
			t.Fatalf("got %s, %d, want %s, %d", shown(l), e, shown(inner), err)
		}
		for _, kinds := range [][2]string{{"left", "right"}, {"right", "left"}, {"full", "full"}, {"inner", "inner"}, {"cross", "cross"}} {
			l, err := rows.Join(kinds[0], a, b, wa, wb, on)
			r, other := rows.Join(kinds[1], b, a, wb, wa, turned(on, wa, wb))
			if (err == api.OK) != (other == api.OK) {
				t.Fatalf("got %d and %d", err, other)
			}
			back, _ := rows.Project(r, append(ats(wb, wa), ats(0, wb)...))
			if !value.SameBag(l, back) {
				t.Fatalf("%v: got %s and %s", kinds, shown(l), shown(back))
			}
			if len(l) > 0 {
				told++
			}
		}
	}
	if told < 20000 {
		t.Errorf("only %d", told)
	}
}

// P11.6: whatever order the rows stood in, the bags are the same, where there is no error.
func TestBagsFollow(t *testing.T) {
	m := newMaker(9)
	told := map[string]int{}
	for range 10000 {
		width := 1 + m.Intn(2)
		a, b := m.rows(8, width), m.rows(8, width)
		e, es := m.condition(width), m.exprs(3, width)
		on := m.condition(2 * width)
		var keys []api.Key
		for _, x := range es {
			keys = append(keys, up(x))
		}
		aggs := []api.Agg{star(), agg("count", m.expr(width)), agg("sum", m.place(width)), agg("min", m.expr(width)), agg("max", m.expr(width))}
		calls := map[string]func(a, b []api.Row) ([]api.Row, api.Errno){
			"filter":   func(a, b []api.Row) ([]api.Row, api.Errno) { return rows.Filter(a, e) },
			"project":  func(a, b []api.Row) ([]api.Row, api.Errno) { return rows.Project(a, es) },
			"distinct": func(a, b []api.Row) ([]api.Row, api.Errno) { return rows.Distinct(a), api.OK },
			"sort":     func(a, b []api.Row) ([]api.Row, api.Errno) { return rows.Sort(a, keys) },
			"group":    func(a, b []api.Row) ([]api.Row, api.Errno) { return rows.Group(a, es, aggs) },
		}
		for _, o := range putOps() {
			calls[o] = func(a, b []api.Row) ([]api.Row, api.Errno) { return rows.Put(o, a, b) }
		}
		for _, kind := range kinds() {
			calls[kind] = func(a, b []api.Row) ([]api.Row, api.Errno) { return rows.Join(kind, a, b, width, width, on) }
		}
		for name, call := range calls {
			want, err := call(a, b)
			got, other := call(m.shuffled(a), m.shuffled(b))
			if (err == api.OK) != (other == api.OK) || !value.SameBag(got, want) {
				t.Fatalf("%s: got %s, %d, want %s, %d", name, shown(got), other, shown(want), err)
			}
			if err == api.OK && len(want) > 1 {
				told[name]++
			}
		}
	}
	for name, many := range told {
		if many < 1000 {
			t.Errorf("%s: only %d", name, many)
		}
	}
	if len(told) != 14 {
		t.Errorf("got %v", told)
	}
}

// R2: the expressions, keys and aggregates that are handed in stay as they are, also what lies behind them in the same memory.
func TestExpressionsStay(t *testing.T) {
	l := list(row(num(1), num(2)), row(num(1), null()), row(num(3), num(2)))
	es := []api.Expr{op("+", at(0), op("neg", at(1))), at(1), lit(text("behind"))}
	keys := []api.Key{{E: es[0], Desc: true}, {E: at(1)}, {E: lit(text("behind"))}}
	aggs := append(all(op("*", at(1), lit(num(2)))), agg("behind", es[2]))
	on := op("=", at(0), op("-", at(2), lit(num(0))))
	was := func() []any {
		return []any{op("+", at(0), op("neg", at(1))), at(1), lit(text("behind")), true, false, op("*", at(1), lit(num(2))), "behind", op("=", at(0), op("-", at(2), lit(num(0))))}
	}
	got, err := rows.Project(l, es[:2])
	if want := list(row(num(-1), num(2)), row(null(), null()), row(num(1), num(2))); !same(got, want) || err != api.OK {
		t.Errorf("got %s, %d", shown(got), err)
	}
	rows.Sort(l, keys[:2])
	rows.Group(l, es[:2], aggs[:5])
	rows.Filter(l, on)
	rows.Join("full", l, l, 2, 2, on)
	if now := []any{es[0], es[1], es[2], keys[0].Desc, keys[1].Desc, aggs[4].E, aggs[5].Name, on}; !reflect.DeepEqual(now, was()) {
		t.Errorf("got %v", now)
	}
	if !reflect.DeepEqual([]any{keys[0].E, keys[1].E, keys[2].E, aggs[5].E}, []any{es[0], es[1], es[2], es[2]}) {
		t.Errorf("got %v and %v", keys, aggs)
	}
}
