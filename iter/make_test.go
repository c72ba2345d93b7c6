package iter_test

import (
	"slices"
	"testing"

	"boscage/api"
	"boscage/iter"
)

// makes asks what Make answers: an Iter and OK, or none and ErrArg.
func makes(t *testing.T, f api.Flow, want api.Errno) {
	t.Helper()
	handed := hold(f)
	x, err := iter.Make(handed.now)
	if err != want || (x == nil) != (want != api.OK) {
		t.Fatalf("%v: got %v, %d, want %d", f, x, err, want)
	}
	if !handed.stays() {
		t.Fatalf("%v: what was handed in was changed", f)
	}
}

// P14.1: each Op with as many of L as it wants, and with others.
func TestMake(t *testing.T) {
	wanted := map[string]func(many int) bool{
		"rows": func(many int) bool { return many == 0 },
		"then": func(many int) bool { return true },
	}
	for _, o := range []string{"filter", "project", "limit", "distinct"} {
		wanted[o] = func(many int) bool { return many == 1 }
	}
	for o, wants := range wanted {
		for many := range 5 {
			f := api.Flow{Op: o, Rows: nums(1), E: lit(yes()), Es: ats(1), N: 1, L: slices.Repeat(below(given(nums(2))), many)}
			err := api.ErrArg
			if wants(many) {
				err = api.OK
			}
			makes(t, f, err)
			makes(t, then(given(nil), f), err)
			makes(t, distinct(limit(1, 0, f)), err)
		}
		makes(t, api.Flow{Op: o, L: []api.Flow{}}, map[bool]api.Errno{true: api.OK, false: api.ErrArg}[wants(0)])
	}
}

// P14.1: ErrArg of another Op, wherever it stands, whatever else is there.
func TestMakeOp(t *testing.T) {
	for _, o := range []string{"", "Rows", "ROWS", "row", "rows ", " rows", "scan", "one", "sort", "join", "group", "put", "filters", "limits", "drain", "thens", "the", "\x00", "union", "then\x00"} {
		for many := range 3 {
			wrong := api.Flow{Op: o, Rows: nums(1), E: lit(yes()), L: slices.Repeat(below(given(nums(2))), many)}
			makes(t, wrong, api.ErrArg)
			for _, f := range []api.Flow{filter(lit(yes()), wrong), project(wrong, at(0)), limit(0, 0, wrong), distinct(wrong), then(wrong), then(wrong, given(nil)), then(given(nil), wrong), then(given(nil), wrong, given(nil))} {
				makes(t, f, api.ErrArg)
				makes(t, then(given(nil), distinct(f)), api.ErrArg)
			}
			makes(t, api.Flow{Op: "rows", L: below(wrong)}, api.ErrArg)
			makes(t, api.Flow{Op: "limit", L: below(given(nil), wrong)}, api.ErrArg)
		}
	}
}

// P14.1: whatever else a flow has than what its Op tells of changes nothing.
func TestMakeRest(t *testing.T) {
	rest := func(f api.Flow) api.Flow {
		all := api.Flow{Op: f.Op, Rows: nums(9, 8), E: lit(num(7)), Es: []api.Expr{lit(text("a"))}, N: 0, Off: 3, L: f.L}
		switch f.Op {
		case "rows":
			all.Rows = f.Rows
		case "filter":
			all.E = f.E
		case "project":
			all.Es = f.Es
		case "limit":
			all.N, all.Off = f.N, f.Off
		}
		return all
	}
	l := given(nums(1, 2, 2))
	for _, f := range []api.Flow{l, filter(above(0, 1), l), project(l, op("neg", at(0))), limit(2, 1, l), distinct(l), then(l, l)} {
		x, err := iter.Make(rest(f))
		if err != api.OK {
			t.Fatalf("got %d", err)
		}
		drains(t, x, plainSteps(f))
	}
}

// P14.1, P14.2: Open begins anew, wherever it stood: at the end, behind an error, in the middle, behind a Close; and all it works on do.
func TestOpen(t *testing.T) {
	l := iter.Rows(nums(1, 2, 2, 3, 0, 1))
	d := iter.Distinct(l)
	f := iter.Filter(d, tried(at(0)))
	x := iter.Limit(f, 9, 1)
	want := plainSteps(limit(9, 1, filter(tried(at(0)), distinct(given(nums(1, 2, 2, 3, 0, 1))))))
	for many := range len(want) + 2 {
		for range 2 {
			x.Open()
			goes(t, x, want, many)
		}
		x.Open()
		goes(t, l, some(0, [2]int64{1, 1}), 1)
		x.Open()
		goes(t, d, some(0, [2]int64{1, 1}, [2]int64{2, 1}, [2]int64{3, 2}), 3)
		x.Open()
		goes(t, f, some(0, [2]int64{1, 1}, [2]int64{2, 1}, [2]int64{3, 2}), 3)
		if many%2 == 0 {
			x.Close()
		}
	}
}

// P14.1, P14.2: of several one behind the other all are opened, and closed, with the whole.
func TestOpenThen(t *testing.T) {
	var l []*iter.Iter
	for i := range int64(3) {
		l = append(l, iter.Rows(nums(i, 9)))
	}
	x := iter.Then(slices.Clone(l)...)
	for range 2 {
		x.Open()
		goes(t, x, some(0, [2]int64{0, 1}, [2]int64{9, 1}, [2]int64{1, 1}), 3)
		x.Open()
		for i, y := range l {
			goes(t, y, some(0, [2]int64{int64(i), 1}), 1)
		}
		x.Close()
		for _, y := range append(l, x) {
			if r, is, err := y.Next(); len(r) > 0 || is || err != api.ErrArg {
				t.Fatalf("got %s, %t, %d", told(r), is, err)
			}
		}
	}
}

// P14.2: no row and ErrArg ahead of Open, behind Close, whatever came ahead of that.
func TestClosed(t *testing.T) {
	for _, f := range []api.Flow{given(upTo(3)), filter(above(0, 1), given(upTo(3))), filter(tried(op("-", at(0), lit(num(2)))), given(upTo(3))), project(given(upTo(3)), at(0)), limit(0, 0, given(upTo(3))), limit(2, 0, given(upTo(3))), distinct(given(upTo(3))), then(), then(given(upTo(2)), given(upTo(1))), given(nil)} {
		want := plainSteps(f)
		x := built(f)
		closed(t, x, 0)
		x.Close()
		closed(t, x, 0)
		for many := range len(want) + 2 {
			x.Open()
			pulled := goes(t, x, want, many)
			for range 2 {
				x.Close()
				closed(t, x, pulled)
			}
		}
	}
}

// P14.2: Close closes all it works on; what is opened by itself stays closed above.
func TestCloseBelow(t *testing.T) {
	l := iter.Rows(upTo(3))
	f := iter.Filter(l, lit(yes()))
	p := iter.Project(f, ats(1))
	d := iter.Distinct(p)
	x := iter.Limit(d, 3, 0)
	below := []*iter.Iter{l, f, p, d, x}
	for i, y := range below {
		x.Open()
		next(t, x, step{r: row(num(1)), is: true}, 1)
		for _, z := range below {
			next(t, z, step{r: row(num(2)), is: true}, 2)
			x.Open()
			next(t, x, step{r: row(num(1)), is: true}, 1)
		}
		x.Close()
		for _, z := range below {
			closed(t, z, 1)
		}
		for k, z := range below {
			y.Open()
			if k <= i {
				next(t, z, step{r: row(num(1)), is: true}, 1)
			} else if r, is, err := z.Next(); len(r) > 0 || is || err != api.ErrArg {
				t.Fatalf("got %s, %t, %d", told(r), is, err)
			}
		}
	}
}
