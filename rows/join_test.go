package rows_test

import (
	"testing"

	"boscage/api"
	"boscage/rows"
)

func joins(t *testing.T, kind string, a, b []api.Row, wa, wb int, on api.Expr, want []api.Row, err api.Errno) {
	t.Helper()
	asks(t, want, err, func(l ...[]api.Row) ([]api.Row, api.Errno) { return rows.Join(kind, l[0], l[1], wa, wb, on) }, a, b)
}

func kinds() []string { return []string{"inner", "left", "right", "full", "cross"} }

// P11.2: the chapter's example.
func TestJoinExample(t *testing.T) {
	joins(t, "left", nums(1, 2), list(row(num(1), num(5))), 1, 2, op("=", at(0), at(1)), list(row(num(1), num(1), num(5)), row(num(2), null(), null())), api.OK)
}

// P11.2: each kind: which rows, and in which order.
func TestJoin(t *testing.T) {
	n := null()
	a := list(row(num(1)), row(num(2)), row(n), row(num(3)), row(num(2)))
	b := list(row(num(9), num(90)), row(num(2), num(20)), row(n, num(0)), row(num(3), num(30)), row(num(2), num(21)), row(num(8), n))
	on := op("=", at(0), at(1))
	twos := list(row(num(2), num(2), num(20)), row(num(2), num(2), num(21)))
	three := row(num(3), num(3), num(30))
	inner := list(twos[0], twos[1], three, twos[0], twos[1])
	left := list(row(num(1), n, n), twos[0], twos[1], row(n, n, n), three, twos[0], twos[1])
	alone := list(row(n, num(9), num(90)), row(n, n, num(0)), row(n, num(8), n))
	joins(t, "inner", a, b, 1, 2, on, inner, api.OK)
	joins(t, "left", a, b, 1, 2, on, left, api.OK)
	joins(t, "right", a, b, 1, 2, on, append(inner, alone...), api.OK)
	joins(t, "full", a, b, 1, 2, on, append(left, alone...), api.OK)
	var cross []api.Row
	for _, x := range a {
		for _, y := range b {
			cross = append(cross, row(x[0], y[0], y[1]))
		}
	}
	joins(t, "cross", a, b, 1, 2, on, cross, api.OK)
	joins(t, "cross", a, b, 1, 2, api.Expr{}, cross, api.OK)
	joins(t, "inner", a, b, 1, 2, lit(yes()), cross, api.OK)
	joins(t, "left", a, b, 1, 2, lit(yes()), cross, api.OK)
	joins(t, "right", a, b, 1, 2, lit(yes()), cross, api.OK)
	joins(t, "full", a, b, 1, 2, lit(yes()), cross, api.OK)
}

// P11.2: where none goes with another, NULLs stand on the other side, as many as that is wide; NULL is not TRUE.
func TestJoinNone(t *testing.T) {
	for wa := range 4 {
		for wb := range 4 {
			a, b := list(wide(wa), wide(wa)), list(wide(wb), wide(wb), wide(wb))
			for i := range wa {
				a[0][i], a[1][i] = num(int64(i)), num(int64(10+i))
			}
			for i := range wb {
				b[0][i], b[1][i], b[2][i] = text("a"), text("b"), text("c")
			}
			onlyA := list(append(wide(wa), wide(wb)...), append(wide(wa), wide(wb)...))
			copy(onlyA[0], a[0])
			copy(onlyA[1], a[1])
			onlyB := list(append(wide(wa), b[0]...), append(wide(wa), b[1]...), append(wide(wa), b[2]...))
			for _, v := range []api.Value{no(), null()} {
				joins(t, "inner", a, b, wa, wb, lit(v), nil, api.OK)
				joins(t, "left", a, b, wa, wb, lit(v), onlyA, api.OK)
				joins(t, "right", a, b, wa, wb, lit(v), onlyB, api.OK)
				joins(t, "full", a, b, wa, wb, lit(v), append(onlyA, onlyB...), api.OK)
			}
			for err, e := range wrongs() { // with no rows on a side on is not asked
				joins(t, "inner", a, nil, wa, wb, e, nil, api.OK)
				joins(t, "inner", nil, b, wa, wb, e, nil, api.OK)
				joins(t, "cross", a, nil, wa, wb, e, nil, api.OK)
				joins(t, "cross", nil, b, wa, wb, e, nil, api.OK)
				joins(t, "left", a, nil, wa, wb, e, onlyA, api.OK)
				joins(t, "left", nil, b, wa, wb, e, nil, api.OK)
				joins(t, "right", a, nil, wa, wb, e, nil, api.OK)
				joins(t, "right", nil, b, wa, wb, e, onlyB, api.OK)
				joins(t, "full", a, nil, wa, wb, e, onlyA, api.OK)
				joins(t, "full", nil, b, wa, wb, e, onlyB, api.OK)
				joins(t, "full", nil, nil, wa, wb, e, nil, api.OK)
				joins(t, "full", a, b, wa, wb, e, nil, err)
			}
		}
	}
	joins(t, "full", list(wide(32, num(1))), list(wide(32, num(2))), 32, 32, op("=", at(31), at(63)), list(append(wide(32, num(1)), wide(32)...), wide(64, num(2))), api.OK)
	joins(t, "left", list(row(num(1))), nil, 1, 63, lit(yes()), list(append(row(num(1)), wide(63)...)), api.OK)
	joins(t, "right", nil, list(nil, nil), 64, 0, lit(yes()), list(wide(64), wide(64)), api.OK)
}

// P11.2: a row goes alone just if it goes with none, wherever the one stands that it goes with.
func TestJoinAlone(t *testing.T) {
	for i := range int64(5) {
		for _, kind := range kinds() {
			a, b := nums(i), nums(0, 1, 2, 3)
			want, _ := plainJoin(kind, a, b, 1, 1, op("=", at(0), at(1)))
			joins(t, kind, a, b, 1, 1, op("=", at(0), at(1)), want, api.OK)
			want, _ = plainJoin(kind, b, a, 1, 1, op("=", at(0), at(1)))
			joins(t, kind, b, a, 1, 1, op("=", at(0), at(1)), want, api.OK)
		}
	}
	joins(t, "right", nums(5, 6), nums(7, 5, 7, 5, 7), 1, 1, op("=", at(0), at(1)), list(row(num(5), num(5)), row(num(5), num(5)), row(null(), num(7)), row(null(), num(7)), row(null(), num(7))), api.OK)
	joins(t, "left", nums(7, 5, 7, 5), nums(5), 1, 1, op("=", at(0), at(1)), list(row(num(7), null()), row(num(5), num(5)), row(num(7), null()), row(num(5), num(5))), api.OK)
}

// P11.2: ErrArg of another kind, ahead of all else.
func TestJoinKind(t *testing.T) {
	for _, kind := range []string{"", "outer", "Inner", "INNER", "inner ", " left", "lefts", "leftouter", "rights", "natural", "crossed", "cros", "fullouter", "union", "\x00", "in", "innerleft"} {
		joins(t, kind, nil, nil, 0, 0, lit(yes()), nil, api.ErrArg)
		joins(t, kind, nums(1, 2), nums(1), 1, 1, op("=", at(0), at(1)), nil, api.ErrArg)
		joins(t, kind, nums(1, 2), nil, 1, 1, lit(yes()), nil, api.ErrArg)
		for _, e := range wrongs() {
			joins(t, kind, nums(1), nums(1), 1, 1, e, nil, api.ErrArg)
		}
	}
	for _, kind := range kinds() {
		joins(t, kind, nil, nil, 0, 0, api.Expr{}, nil, api.OK)
	}
}

// P11.2: the first pair that has an error, each row of a with all of b ahead of the next one; of cross on is not asked.
func TestJoinError(t *testing.T) {
	a, b := nums(5, 6), nums(1, 2)
	cross := list(row(num(5), num(1)), row(num(5), num(2)), row(num(6), num(1)), row(num(6), num(2)))
	for err, e := range wrongs() {
		for _, kind := range kinds()[:4] {
			joins(t, kind, a, b, 1, 1, e, nil, err)
			joins(t, kind, list(nil), list(nil), 0, 0, e, nil, err)
		}
		joins(t, "cross", a, b, 1, 1, e, cross, api.OK)
		joins(t, "cross", list(nil), list(nil), 0, 0, e, list(nil), api.OK)
	}
	for _, v := range some()[3:] {
		for _, kind := range kinds()[:4] {
			joins(t, kind, a, b, 1, 1, lit(v), nil, api.ErrType)
		}
		joins(t, "cross", a, b, 1, 1, lit(v), cross, api.OK)
	}
	on := tried(op("-", at(0), at(1))) // ErrZero of the same, ErrOver, where the second one is one more
	for _, kind := range kinds()[:4] {
		joins(t, kind, nums(5, 6), nums(5, 7), 1, 1, on, nil, api.ErrZero)
		joins(t, kind, nums(5, 6), nums(7, 6, 5), 1, 1, on, nil, api.ErrOver)
		joins(t, kind, nums(9, 5, 6), nums(7, 6), 1, 1, on, nil, api.ErrOver)
		joins(t, kind, nums(7, 4), nums(9, 4, 5), 1, 1, on, nil, api.ErrZero)
		joins(t, kind, nums(6, 4), nums(5, 6), 1, 1, on, nil, api.ErrZero)
		joins(t, kind, nums(5, 7), nums(7, 6), 1, 1, on, nil, api.ErrOver)
		joins(t, kind, nums(9, 4), list(row(num(5)), row(text("a")), row(num(4))), 1, 1, on, nil, api.ErrType)
		joins(t, kind, nums(9, 5, 8), nums(1, 2, 8), 1, 1, on, nil, api.ErrZero)
	}
}

// P11.2: at random.
func TestJoinAny(t *testing.T) {
	m := newMaker(2)
	good, bad := map[string]int{}, 0
	for range 20000 {
		wa, wb := m.Intn(4), m.Intn(4)
		a, b := m.rows(5, wa), m.rows(5, wb)
		on := m.condition(wa + wb)
		if m.Intn(3) == 0 {
			on = op("and", on, m.condition(wa+wb))
		}
		for _, kind := range kinds() {
			want, err := plainJoin(kind, a, b, wa, wb, on)
			joins(t, kind, a, b, wa, wb, on, want, err)
			if err != api.OK {
				bad++
			} else if len(want) > 0 {
				good[kind]++
			}
		}
	}
	for _, kind := range kinds() {
		if good[kind] < 2000 || bad < 2000 {
			t.Errorf("%s: only %d and %d", kind, good[kind], bad)
		}
	}
}

// R1: of widths and rows that do not go together, and of expressions that are not bound, it ends.
func TestJoinEnds(t *testing.T) {
	a, b := list(nil, row(num(1)), wide(100)), list(wide(65), row(text("a")), nil)
	odd := []api.Expr{{}, at(0), at(64), at(-1), op("=", at(0), at(1)), {Op: "col", Name: "a"}, op("and"), lit(yes()), lit(no()), lit(api.Value{Kind: 9})}
	for _, kind := range append(kinds(), "", "x") {
		for _, wa := range []int{least, -1, 0, 1, 64, 65, 1 << 40, most} {
			for _, wb := range []int{least, -1, 0, 1, 64, 65, 1 << 40, most} {
				for _, on := range odd {
					rows.Join(kind, a, b, wa, wb, on)
					rows.Join(kind, nil, b, wa, wb, on)
					rows.Join(kind, a, nil, wa, wb, on)
				}
			}
		}
	}
}
