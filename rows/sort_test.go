package rows_test

import (
	"slices"
	"testing"

	"boscage/api"
	"boscage/rows"
)

func sorts(t *testing.T, l []api.Row, keys []api.Key, want []api.Row, err api.Errno) {
	t.Helper()
	asks(t, want, err, func(l ...[]api.Row) ([]api.Row, api.Errno) { return rows.Sort(l[0], keys) }, l)
}

func limits(t *testing.T, l []api.Row, n, off int64, want []api.Row) {
	t.Helper()
	asks(t, want, api.OK, func(l ...[]api.Row) ([]api.Row, api.Errno) { return rows.Limit(l[0], n, off), api.OK }, l)
}

func up(e api.Expr) api.Key   { return api.Key{E: e} }
func down(e api.Expr) api.Key { return api.Key{E: e, Desc: true} }

// P11.4: by one key's values, of all Kinds, either way round.
func TestSort(t *testing.T) {
	m := newMaker(4)
	var ordered []api.Row
	for _, v := range some() {
		ordered = append(ordered, row(v))
	}
	turned := slices.Clone(ordered)
	slices.Reverse(turned)
	for range 50 {
		l := m.shuffled(ordered)
		sorts(t, l, []api.Key{up(at(0))}, ordered, api.OK)
		sorts(t, l, []api.Key{down(at(0))}, turned, api.OK)
	}
	sorts(t, nums(3, 1, 2), []api.Key{up(op("neg", at(0)))}, nums(3, 2, 1), api.OK)
	sorts(t, nums(3, 1, 2), []api.Key{down(op("neg", at(0)))}, nums(1, 2, 3), api.OK)
	sorts(t, nums(3, 1, 2), []api.Key{up(op("<", at(0), lit(num(3))))}, nums(3, 1, 2), api.OK)
	sorts(t, nums(1, 3, 2), []api.Key{up(op("=", at(0), lit(num(1))))}, nums(3, 2, 1), api.OK)
	sorts(t, nil, []api.Key{up(at(0))}, nil, api.OK)
	sorts(t, nums(1), []api.Key{up(at(0))}, nums(1), api.OK)
	long := list(wide(64, num(2)), wide(64, num(1)), wide(64))
	sorts(t, long, []api.Key{up(at(63))}, list(long[2], long[1], long[0]), api.OK)
}

// P11.4: rows at the same place stay as they stood, turned round or not.
func TestSortStays(t *testing.T) {
	var l, rising, falling []api.Row
	for i := range int64(1000) {
		l = append(l, row(num(i*7%5), num(i)))
	}
	for k := range int64(5) {
		for _, r := range l {
			if r[0].I == k {
				rising = append(rising, r)
			}
		}
	}
	for k := range int64(5) {
		for _, r := range l {
			if r[0].I == 4-k {
				falling = append(falling, r)
			}
		}
	}
	sorts(t, l, []api.Key{up(at(0))}, rising, api.OK)
	sorts(t, l, []api.Key{down(at(0))}, falling, api.OK)
	for _, key := range []api.Key{up(lit(num(1))), down(lit(num(1))), up(op("isnull", at(0))), down(op("isnull", at(0)))} {
		sorts(t, l, []api.Key{key}, l, api.OK)
		sorts(t, l, []api.Key{key, up(at(0)), key}, rising, api.OK)
	}
	sorts(t, l, nil, l, api.OK)
	sorts(t, list(nil, row(), nil), nil, list(nil, nil, nil), api.OK)
}

// P11.4: the first key first, each turned round by itself.
func TestSortKeys(t *testing.T) {
	l := list(row(num(1), text("b")), row(num(2), text("a")), row(null(), text("c")), row(num(1), text("a")), row(num(2), null()), row(num(1), text("c")))
	for _, x := range []struct {
		keys []api.Key
		want []int
	}{
		{[]api.Key{up(at(0)), up(at(1))}, []int{2, 3, 0, 5, 4, 1}},
		{[]api.Key{up(at(0)), down(at(1))}, []int{2, 5, 0, 3, 1, 4}},
		{[]api.Key{down(at(0)), up(at(1))}, []int{4, 1, 3, 0, 5, 2}},
		{[]api.Key{down(at(0)), down(at(1))}, []int{1, 4, 5, 0, 3, 2}},
		{[]api.Key{up(at(1)), up(at(0))}, []int{4, 3, 1, 0, 2, 5}},
		{[]api.Key{down(at(1)), up(at(0))}, []int{2, 5, 0, 3, 1, 4}},
		{[]api.Key{down(at(1))}, []int{2, 5, 0, 1, 3, 4}},
		{[]api.Key{up(at(1)), down(at(1))}, []int{4, 1, 3, 0, 2, 5}},
		{[]api.Key{down(at(0)), up(at(0)), down(at(0)), up(at(1))}, []int{4, 1, 3, 0, 5, 2}},
	} {
		var want []api.Row
		for _, i := range x.want {
			want = append(want, l[i])
		}
		sorts(t, l, x.keys, want, api.OK)
	}
	var keys []api.Key
	for i := range 64 {
		keys = append(keys, up(at(i)))
	}
	many := list(wide(64, num(2)), wide(64, num(1)), wide(64, num(1), num(0)), wide(64, num(0), num(0)))
	sorts(t, many, keys, list(many[1], many[0], many[3], many[2]), api.OK)
	keys[63].Desc = true
	sorts(t, many, keys, list(many[0], many[1], many[3], many[2]), api.OK)
}

// P11.4: each key is asked of each row, row by row, though another one tells already where it goes.
func TestSortError(t *testing.T) {
	for err, e := range wrongs() {
		sorts(t, nil, []api.Key{up(e)}, nil, api.OK)
		sorts(t, list(nil), []api.Key{down(e)}, nil, err)
		sorts(t, nums(1), []api.Key{up(e)}, nil, err)
		sorts(t, nums(1, 2), []api.Key{up(at(0)), up(at(0)), down(e)}, nil, err)
		for other, o := range wrongs() {
			sorts(t, nums(2, 1), []api.Key{up(at(0)), up(e), up(o)}, nil, err)
			sorts(t, nums(2, 1), []api.Key{down(o), up(e)}, nil, other)
		}
	}
	keys := []api.Key{up(tried(at(0))), down(tried(at(1)))}
	sorts(t, list(row(num(5), num(5)), row(num(1), num(-1)), row(num(0), num(1))), keys, nil, api.ErrOver)
	sorts(t, list(row(num(5), num(5)), row(num(0), num(1)), row(num(1), num(-1))), keys, nil, api.ErrZero)
	sorts(t, list(row(num(5), num(5)), row(num(9), text("a")), row(num(0), num(1))), keys, nil, api.ErrType)
	sorts(t, list(row(num(-1), num(0)), row(num(1), text("a"))), keys, nil, api.ErrOver)
}

// P11.4: at random.
func TestSortAny(t *testing.T) {
	m := newMaker(5)
	good, bad := 0, 0
	for range 20000 {
		width := m.Intn(4)
		l := m.rows(12, width)
		var keys []api.Key
		for _, e := range m.exprs(3, width) {
			keys = append(keys, api.Key{E: e, Desc: m.Intn(2) == 0})
		}
		want, err := plainSort(l, keys)
		sorts(t, l, keys, want, err)
		if err != api.OK {
			bad++
		} else if !same(l, want) {
			good++
		}
	}
	if good < 2000 || bad < 1000 {
		t.Errorf("only %d and %d", good, bad)
	}
}

// P11.4: the first n behind the first off, with the edges of 64 bits.
func TestLimit(t *testing.T) {
	l := nums(10, 11, 12, 13)
	for _, x := range []struct {
		n, off int64
		want   []api.Row
	}{
		{-1, -1, l}, {-1, 0, l}, {4, 0, l}, {5, -7, l}, {2, 1, l[1:3]}, {2, 0, l[:2]}, {2, -1, l[:2]}, {9, 3, l[3:]}, {1, 3, l[3:]}, {0, 0, nil}, {0, -1, nil}, {0, 2, nil}, {1, 4, nil}, {1, 9, nil}, {-1, 4, nil}, {-1, 1, l[1:]}, {-9, 3, l[3:]}, {3, 1, l[1:]}, {3, 2, l[2:]},
	} {
		limits(t, l, x.n, x.off, x.want)
	}
	edges := []int64{least, least + 1, -1 << 32, -1 << 31, -2, -1, 0, 1, 2, 3, 4, 5, 6, 1 << 31, 1 << 32, 1<<32 + 1, 1<<32 + 3, most - 3, most - 1, most}
	for many := range 6 {
		var l []api.Row
		for i := range many {
			l = append(l, row(num(int64(i))))
		}
		for _, n := range edges {
			for _, off := range edges {
				limits(t, l, n, off, plainLimit(l, n, off))
			}
		}
	}
	limits(t, nil, 3, 0, nil)
	limits(t, nums(1, 1, 1), 2, 0, nums(1, 1))
}

// P11.4: Limit is of any rows: of whatever lengths, and of values that may not be.
func TestLimitAnyRows(t *testing.T) {
	l := list(nil, wide(64, yes()), row(api.Value{Kind: 9, I: 1, S: "a"}), row(api.Value{I: 1}, api.Value{Kind: api.Bool, I: 2}), wide(3), row(api.Value{Kind: -1}), row(api.Value{Kind: api.Text, I: 7, S: "a"}))
	limits(t, l, -1, 0, l)
	limits(t, l, 3, 1, l[1:4])
	limits(t, l, 9, 5, l[5:])
}

// R1: of expressions that are not bound, and of rows that are not, it ends.
func TestSortEnds(t *testing.T) {
	odd := list(nil, row(num(1)), wide(100), row(api.Value{Kind: 9}), row(api.Value{I: 1}))
	for _, e := range []api.Expr{{}, at(0), at(-1), at(64), at(most), {Op: "col", Name: "a"}, op("and"), op("="), lit(api.Value{Kind: 9}), {Op: "star"}, call("sum", at(0))} {
		keys := slices.Repeat([]api.Key{up(e), down(e)}, 50)
		rows.Sort(odd, keys[:1])
		rows.Sort(odd, keys)
		rows.Filter(odd, e)
		rows.Project(odd, slices.Repeat([]api.Expr{e}, 100))
		rows.Truth(e, nil)
	}
}
