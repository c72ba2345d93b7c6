package rows_test

import (
	"slices"
	"testing"

	"boscage/api"
	"boscage/rows"
)

func distincts(t *testing.T, l, want []api.Row) {
	t.Helper()
	asks(t, want, api.OK, func(l ...[]api.Row) ([]api.Row, api.Errno) { return rows.Distinct(l[0]), api.OK }, l)
}

func puts(t *testing.T, o string, a, b, want []api.Row, err api.Errno) {
	t.Helper()
	asks(t, want, err, func(l ...[]api.Row) ([]api.Row, api.Errno) { return rows.Put(o, l[0], l[1]) }, a, b)
}

func putOps() []string { return []string{"unionall", "union", "intersect", "except"} }

// apart are rows no two of which are the same, though they nearly are.
func apart() []api.Row {
	l := list(nil)
	for _, v := range some() {
		l = append(l, row(v), row(v, null()), row(null(), v, v), row(v, text(""), text("a")))
	}
	l = append(l, row(text("a"), text("b")), row(text("a, b")), row(text("a', 'b")), row(text("a','b")), row(text("a'"), text("'b")), row(text("a',"), text("b")), row(text("a"), text(",'b")), row(text("a,b")), row(text("ab"), text("")), row(text(""), text("ab")))
	l = append(l, row(num(1), num(2)), row(num(12)), row(num(1), num(23)), row(num(12), num(3)), row(text("1, 2")), row(num(-1), num(2)), row(num(1), num(-2)), row(yes(), no()), row(no(), yes()), row(blob("\x12"), blob("\x34")), row(blob("\x12\x34")), row(blob("12"), blob("34")))
	for many := 4; many <= 64; many++ {
		l = append(l, wide(many, yes()), wide(many, no(), yes()), wide(many))
	}
	return l
}

// P11.3: each row once, where it stands first; NULL is the same as NULL.
func TestDistinct(t *testing.T) {
	distincts(t, nil, nil)
	distincts(t, nums(1), nums(1))
	distincts(t, nums(3, 1, 3, 2, 1, 1, 3), nums(3, 1, 2))
	distincts(t, nums(2, 1, 2, 2), nums(2, 1))
	distincts(t, list(nil, row(), nil), list(nil))
	distincts(t, list(row(null()), nil, row(null()), row(null(), null()), row(null())), list(row(null()), nil, row(null(), null())))
	distincts(t, list(row(num(1), null()), row(null(), num(1)), row(num(1), null())), list(row(num(1), null()), row(null(), num(1))))
	l := apart()
	distincts(t, l, l)
	distincts(t, slices.Concat(l, l, l), l)
	var twice []api.Row
	for _, r := range l {
		twice = append(twice, r, r)
	}
	distincts(t, twice, l)
	back := slices.Clone(l)
	slices.Reverse(back)
	distincts(t, slices.Concat(back, l), back)
}

// P11.3: all lists of up to five of three rows.
func TestDistinctAll(t *testing.T) {
	lists := [][]api.Row{nil}
	for from, n := 0, 0; n < 5; n++ {
		end := len(lists)
		for _, l := range lists[from:end] {
			for _, r := range list(row(num(1)), row(null()), row(num(1), null())) {
				lists = append(lists, append(slices.Clone(l), r))
			}
		}
		from = end
	}
	for _, l := range lists {
		distincts(t, l, plainDistinct(l))
	}
}

// P11.3: two lists put together.
func TestPut(t *testing.T) {
	n := row(null())
	a := append(nums(1, 2, 1, 4), n, row(num(3)), n, row(num(4)))
	b := append(nums(4, 2, 5, 5, 2), n, row(num(6)))
	puts(t, "unionall", a, b, append(slices.Clone(a), b...), api.OK)
	puts(t, "union", a, b, append(nums(1, 2, 4), n, row(num(3)), row(num(5)), row(num(6))), api.OK)
	puts(t, "intersect", a, b, append(nums(2, 4), n), api.OK)
	puts(t, "except", a, b, nums(1, 3), api.OK)
	puts(t, "unionall", b, a, append(slices.Clone(b), a...), api.OK)
	puts(t, "union", b, a, append(nums(4, 2, 5), n, row(num(6)), row(num(1)), row(num(3))), api.OK)
	puts(t, "intersect", b, a, append(nums(4, 2), n), api.OK)
	puts(t, "except", b, a, nums(5, 6), api.OK)
}

// P11.3: with no rows on a side, and with the same ones on both.
func TestPutEdges(t *testing.T) {
	a, once := nums(2, 1, 2, 3, 3), nums(2, 1, 3)
	puts(t, "unionall", a, nil, a, api.OK)
	puts(t, "unionall", nil, a, a, api.OK)
	puts(t, "unionall", a, a, slices.Concat(a, a), api.OK)
	puts(t, "union", a, nil, once, api.OK)
	puts(t, "union", nil, a, once, api.OK)
	puts(t, "union", a, a, once, api.OK)
	puts(t, "intersect", a, nil, nil, api.OK)
	puts(t, "intersect", nil, a, nil, api.OK)
	puts(t, "intersect", a, a, once, api.OK)
	puts(t, "except", a, nil, once, api.OK)
	puts(t, "except", nil, a, nil, api.OK)
	puts(t, "except", a, a, nil, api.OK)
	l := apart()
	for _, o := range putOps() {
		puts(t, o, nil, nil, nil, api.OK)
		for i := range l {
			some := list(l[i], l[(i+1)%len(l)], l[i])
			for _, other := range [][]api.Row{{l[i]}, {l[(i+2)%len(l)], l[(i+1)%len(l)]}, {l[(i+3)%len(l)]}} {
				puts(t, o, some, other, plainPut(o, some, other), api.OK)
			}
		}
		puts(t, o, l, l[len(l)/3:], plainPut(o, l, l[len(l)/3:]), api.OK)
	}
}

// P11.3: ErrArg of another op.
func TestPutOp(t *testing.T) {
	for _, o := range []string{"", "minus", "Union", "UNION", "union all", "union ", "unionalls", "intersectall", "exceptall", "inter", "excepts", "all", "select", "\x00", "unio"} {
		puts(t, o, nil, nil, nil, api.ErrArg)
		puts(t, o, nums(1), nums(1, 2), nil, api.ErrArg)
		puts(t, o, nums(1), nil, nil, api.ErrArg)
		puts(t, o, nil, nums(1), nil, api.ErrArg)
	}
}

// P11.3: at random, of rows of whatever lengths.
func TestPutAny(t *testing.T) {
	m := newMaker(3)
	for range 10000 {
		a, b := slices.Concat(m.rows(4, 1), m.rows(3, 2), m.rows(1, 0)), slices.Concat(m.rows(4, 1), m.rows(3, 2), m.rows(1, 0))
		a, b = m.shuffled(a), m.shuffled(b)
		distincts(t, a, plainDistinct(a))
		for _, o := range putOps() {
			puts(t, o, a, b, plainPut(o, a, b), api.OK)
		}
	}
}

// R6: many rows, and long ones, are told apart ahead of long.
func TestDistinctMany(t *testing.T) {
	var l, want []api.Row
	for i := range int64(60000) {
		l = append(l, row(num(i%20000), text("a"), null()))
	}
	want = l[:20000]
	if got := rows.Distinct(l); !same(got, want) {
		t.Errorf("got %s", shown(got))
	}
	if got, e := rows.Put("intersect", l, l[10000:20000]); !same(got, l[10000:20000]) || e != api.OK {
		t.Errorf("got %s, %d", shown(got), e)
	}
	if got, e := rows.Put("except", l, l[10000:20000]); !same(got, l[:10000]) || e != api.OK {
		t.Errorf("got %s, %d", shown(got), e)
	}
}

// R1: of rows that may not be, and of long ones, it ends.
func TestSetsEnd(t *testing.T) {
	odd := list(wide(65), wide(65, num(1)), wide(1000), row(api.Value{Kind: 9, I: 1, S: "a"}), row(api.Value{Kind: api.Bool, I: 2}), row(api.Value{I: 1}), row(api.Value{Kind: -1}), nil)
	rows.Distinct(odd)
	for _, o := range append(putOps(), "", "x") {
		rows.Put(o, odd, odd)
	}
}
