package iter_test

import (
	"slices"
	"testing"

	"boscage/api"
	"boscage/iter"
)

// ends asks that all calls end, and that there is no row beside an error.
func ends(t *testing.T, x *iter.Iter) {
	t.Helper()
	ask := func() {
		for range 4 {
			if r, is, err := x.Next(); (err != api.OK || !is) && len(r) > 0 || err != api.OK && is {
				t.Fatalf("got %s, %t, %d", told(r), is, err)
			}
			x.Pulled()
		}
	}
	ask()
	x.Close()
	x.Open()
	x.Open()
	ask()
	x.Close()
	ask()
	for range 2 {
		if l, err := iter.Drain(x); err != api.OK && len(l) > 0 {
			t.Fatalf("got %s, %d", told(l...), err)
		}
	}
}

// on are operators on another one.
func on(x *iter.Iter, e api.Expr) []*iter.Iter {
	return []*iter.Iter{iter.Filter(x, e), iter.Project(x, []api.Expr{e, e}), iter.Project(x, nil), iter.Limit(x, 2, 1), iter.Limit(x, 0, 0), iter.Limit(x, least, most), iter.Distinct(x), iter.Then(x), iter.Then(iter.Rows(nums(1)), x, iter.Rows(nums(2)))}
}

// R1: of what is no Iter it ends: none has a row, and asked for one it fails.
func TestNoIter(t *testing.T) {
	for _, x := range []*iter.Iter{nil, {}, new(iter.Iter)} {
		ends(t, x)
		if l, err := iter.Drain(x); len(l) > 0 || err != api.ErrArg || x.Pulled() != 0 {
			t.Errorf("got %s, %d", told(l...), err)
		}
		for _, y := range on(x, lit(yes())) {
			ends(t, y)
			for _, z := range on(y, at(0)) {
				ends(t, z)
			}
		}
	}
	ends(t, iter.Then(nil, new(iter.Iter), nil))
	ends(t, iter.Then([]*iter.Iter(nil)...))
}

// R1: of expressions that are not bound, and of rows that may not be, or are long, it ends.
func TestOdd(t *testing.T) {
	odd := list(nil, row(api.Value{I: 1}), row(api.Value{Kind: 9, I: 1, S: "a"}, num(1)), row(api.Value{Kind: api.Bool, I: 2}), row(api.Value{Kind: -1}), make(api.Row, 65), make(api.Row, 1000), row(api.Value{Kind: api.Text, I: 7}))
	for _, e := range []api.Expr{{}, at(0), at(-1), at(64), at(most), {Op: "col", Name: "a"}, op("and"), op("="), op("like", at(0)), lit(api.Value{Kind: 9}), {Op: "star"}, call("sum", at(0)), {Op: "odd", L: []api.Expr{at(0)}}, {Op: "at", V: text("a"), L: []api.Expr{at(0)}}} {
		for i := range odd {
			for _, x := range on(iter.Rows(odd[i:]), e) {
				ends(t, x)
			}
		}
		for _, o := range []string{"", "rows", "filter", "project", "limit", "distinct", "then", "odd"} {
			for many := range 3 {
				f := api.Flow{Op: o, Rows: odd, E: e, Es: []api.Expr{e}, N: most, Off: least, L: slices.Repeat(below(given(odd)), many)}
				if x, err := iter.Make(f); err == api.OK {
					ends(t, x)
				}
			}
		}
	}
}

// R1: rows of more than 64 values are told apart as well.
func TestDistinctLong(t *testing.T) {
	a, b := make(api.Row, 70), make(api.Row, 70)
	b[69] = num(1)
	if l, err := iter.Drain(iter.Distinct(iter.Rows(list(a, b, a)))); !same(l, list(a, b)) || err != api.OK {
		t.Errorf("got %d rows, %d", len(l), err)
	}
}

// R1: one that stands in several others, or is written over, ends.
func TestShared(t *testing.T) {
	x := iter.Rows(upTo(3))
	y := iter.Then(x, x, iter.Distinct(x))
	for _, z := range append(on(y, lit(yes())), on(x, lit(yes()))...) {
		ends(t, z)
	}
	*x = *iter.Filter(x, lit(yes()))
	ends(t, x)
	*x = *iter.Then(x, iter.Distinct(x))
	ends(t, x)
	ends(t, y)
}

// The bound of DOC.md: of operators that are nested as deep as may be it ends ahead of long.
func TestDeep(t *testing.T) {
	const deep = 1<<16 - 1
	for name, over := range map[string]func(f api.Flow) api.Flow{
		"filter":   func(f api.Flow) api.Flow { return filter(op("notnull", at(0)), f) },
		"project":  func(f api.Flow) api.Flow { return project(f, at(0)) },
		"limit":    func(f api.Flow) api.Flow { return limit(-1, 0, f) },
		"distinct": distinct,
		"first":    func(f api.Flow) api.Flow { return then(f, given(nil)) },
		"last":     func(f api.Flow) api.Flow { return then(given(nil), f) },
	} {
		f, wrong := given(nums(2, 5)), filter(tried(at(0)), given(nums(2, 0)))
		bad := api.Flow{Op: "odd"}
		for range deep {
			f, wrong, bad = over(f), over(wrong), over(bad)
		}
		x, err := iter.Make(f)
		if err != api.OK {
			t.Fatalf("%s: got %d", name, err)
		}
		for range 2 {
			if l, err := iter.Drain(x); !same(l, nums(2, 5)) || err != api.OK || x.Pulled() != 2 {
				t.Errorf("%s: got %s, %d, %d pulled", name, told(l...), err, x.Pulled())
			}
		}
		if l, err := iter.Drain(built(wrong)); len(l) > 0 || err != api.ErrZero {
			t.Errorf("%s: got %s, %d", name, told(l...), err)
		}
		if x, err := iter.Make(bad); x != nil || err != api.ErrArg {
			t.Errorf("%s: got %d", name, err)
		}
	}
	e := at(0)
	for range deep {
		e = op("neg", e)
	}
	for _, x := range on(iter.Rows(nums(1, 2)), e) {
		ends(t, x)
	}
}

// R6: of many rows, and many operators one behind the other, it ends ahead of long.
func TestMany(t *testing.T) {
	const many = 60000
	var l []api.Row
	var one, none []*iter.Iter
	for i := range int64(many) {
		l = append(l, row(num(i%20000), text("a"), null()))
		one = append(one, iter.Rows(nums(i)))
		none = append(none, iter.Filter(iter.Rows(nums(i)), lit(no())))
	}
	if got, err := iter.Drain(iter.Distinct(iter.Rows(l))); !same(got, l[:20000]) || err != api.OK {
		t.Errorf("got %s, %d", told(got...), err)
	}
	if got, err := iter.Drain(iter.Limit(iter.Rows(l), 10, many-5)); !same(got, l[many-5:]) || err != api.OK {
		t.Errorf("got %s, %d", told(got...), err)
	}
	if got, err := iter.Drain(iter.Then(one...)); len(got) != many || err != api.OK {
		t.Errorf("got %s, %d", told(got...), err)
	}
	x := iter.Then(none...)
	if got, err := iter.Drain(x); len(got) > 0 || err != api.OK || x.Pulled() != many {
		t.Errorf("got %s, %d", told(got...), err)
	}
}
