package iter_test

import (
	"slices"
	"testing"

	"boscage/api"
	"boscage/iter"
)

// some are steps with one number each: the number, and how many are pulled for it; then the end, for which so many are pulled.
func some(end int, l ...[2]int64) []step {
	var out []step
	for _, s := range l {
		out = append(out, step{row(num(s[0])), true, api.OK, int(s[1])})
	}
	return append(out, step{pulls: end})
}

// failing are such steps with an error as their end.
func failing(err api.Errno, end int, l ...[2]int64) []step {
	out := some(end, l...)
	out[len(l)].err = err
	return out
}

// The chapter's example.
func TestExample(t *testing.T) {
	x := iter.Limit(iter.Filter(iter.Rows(upTo(5)), above(0, 1)), 2, 0)
	x.Open()
	next(t, x, step{r: row(num(2)), is: true}, 2)
	next(t, x, step{r: row(num(3)), is: true}, 3)
	next(t, x, step{}, 3)
}

// P14.2: Rows gives each row, in order, as often as it stands there.
func TestRows(t *testing.T) {
	gives(t, given(nil), some(0))
	gives(t, given([]api.Row{}), some(0))
	gives(t, given(nums(3, 1, 3)), some(0, [2]int64{3, 1}, [2]int64{1, 1}, [2]int64{3, 1}))
	gives(t, given(list(nil, row(null()), row(), row(num(1), text("a"), blob("\x00"), yes()))), []step{{nil, true, api.OK, 1}, {row(null()), true, api.OK, 1}, {nil, true, api.OK, 1}, {row(num(1), text("a"), blob("\x00"), yes()), true, api.OK, 1}, {}})
	long := slices.Repeat(row(num(5), null(), text("it's")), 21)
	gives(t, given(list(long, long)), []step{{long, true, api.OK, 1}, {long, true, api.OK, 1}, {}})
}

// P14.2: Filter gives those of which the expression is TRUE.
func TestFilter(t *testing.T) {
	l := given(nums(1, 2, 3, 1, 5))
	gives(t, filter(above(0, 1), l), some(0, [2]int64{2, 2}, [2]int64{3, 1}, [2]int64{5, 2}))
	gives(t, filter(above(0, 4), l), some(0, [2]int64{5, 5}))
	gives(t, filter(op("<", at(0), lit(num(2))), l), some(1, [2]int64{1, 1}, [2]int64{1, 3}))
	gives(t, filter(above(0, 9), l), some(5))
	gives(t, filter(lit(null()), l), some(5))
	gives(t, filter(lit(no()), l), some(5))
	gives(t, filter(lit(yes()), given(nil)), some(0))
	gives(t, filter(lit(num(1)), given(nil)), some(0))
	gives(t, filter(lit(num(1)), l), failing(api.ErrType, 1))
	gives(t, filter(lit(text("TRUE")), l), failing(api.ErrType, 1))
	gives(t, filter(op("=", at(0), at(0)), given(list(row(num(1)), row(null()), row(text("a"))))), []step{{row(num(1)), true, api.OK, 1}, {row(text("a")), true, api.OK, 2}, {}})
	gives(t, filter(at(0), given(list(row(yes()), row(no()), row(null()), row(yes()), row(num(1)), row(yes())))), []step{{row(yes()), true, api.OK, 1}, {row(yes()), true, api.OK, 3}, {err: api.ErrType, pulls: 1}})
	gives(t, filter(tried(at(0)), given(nums(-3, 2, -2, 1, -2, 0, -1))), failing(api.ErrZero, 2, [2]int64{2, 2}, [2]int64{1, 2}))
	gives(t, filter(tried(at(0)), given(nums(2, -1, 0))), failing(api.ErrOver, 1, [2]int64{2, 1}))
}

// P14.2: Project gives the values of the expressions, in order.
func TestProject(t *testing.T) {
	l := given(list(row(num(3), text("a")), row(null(), text("b"))))
	gives(t, project(l, at(1), op("+", at(0), lit(num(1))), at(1)), []step{{row(text("a"), num(4), text("a")), true, api.OK, 1}, {row(text("b"), null(), text("b")), true, api.OK, 1}, {}})
	gives(t, project(l), []step{{nil, true, api.OK, 1}, {nil, true, api.OK, 1}, {}})
	gives(t, project(given(list(nil)), lit(num(1)), lit(null())), []step{{row(num(1), null()), true, api.OK, 1}, {}})
	gives(t, project(given(nil), op("/", lit(num(1)), lit(num(0)))), some(0))
	gives(t, project(given(nums(2, 1, 0, 5)), op("/", lit(num(6)), at(0))), failing(api.ErrZero, 1, [2]int64{3, 1}, [2]int64{6, 1}))
	for err, e := range wrongs() {
		gives(t, project(l, at(0), e), failing(err, 1))
		for other, o := range wrongs() {
			gives(t, project(l, e, o), failing(err, 1))
			gives(t, project(project(l, o), e), failing(other, 1))
			gives(t, filter(e, project(l, o)), failing(other, 1))
			gives(t, project(filter(o, l), e), failing(other, 1))
		}
	}
	wide := slices.Repeat(row(num(5), text("a")), 32)
	gives(t, project(given(list(wide)), ats(64)...), []step{{wide, true, api.OK, 1}, {}})
}

// P14.2: Limit gives n rows behind the first off ones, and pulls nothing more when it has; nothing at all, if n is 0.
func TestLimit(t *testing.T) {
	l := given(upTo(4))
	all := [][2]int64{{1, 1}, {2, 1}, {3, 1}, {4, 1}}
	for _, n := range []int64{-1, -2, least, 4, 5, most} {
		for _, off := range []int64{0, -1, -5, least} {
			gives(t, limit(n, off, l), some(0, all...))
		}
		gives(t, limit(n, 2, l), some(0, [2]int64{3, 3}, [2]int64{4, 1}))
		for _, off := range []int64{4, 5, most} {
			gives(t, limit(n, off, l), some(4))
		}
	}
	for _, off := range []int64{-1, 0, 1, 4, 9, most, least} {
		gives(t, limit(0, off, l), some(0))
		gives(t, limit(0, off, filter(lit(num(1)), l)), some(0))
	}
	gives(t, limit(2, 0, l), some(0, all[:2]...))
	gives(t, limit(2, -3, l), some(0, all[:2]...))
	gives(t, limit(1, 3, l), some(0, [2]int64{4, 4}))
	gives(t, limit(1, 0, given(nil)), some(0))
	gives(t, limit(2, 1, limit(2, 1, l)), some(0, [2]int64{3, 3}))
	gives(t, limit(2, 1, filter(op("<>", at(0), lit(num(2))), l)), some(0, [2]int64{3, 3}, [2]int64{4, 1}))
	e := tried(at(0))
	gives(t, limit(2, 0, filter(e, given(nums(1, 2, 0)))), some(0, [2]int64{1, 1}, [2]int64{2, 1}))
	gives(t, limit(3, 0, filter(e, given(nums(1, 2, 0)))), failing(api.ErrZero, 1, [2]int64{1, 1}, [2]int64{2, 1}))
	gives(t, limit(3, 2, filter(e, given(nums(1, 0, 2, 3)))), failing(api.ErrZero, 2))
	gives(t, limit(-1, 1, filter(e, given(nums(1, 2, -1, 2)))), failing(api.ErrOver, 1, [2]int64{2, 2}))
}

// P14.2: the edges of 64 bits, of lists of up to five rows.
func TestLimitEdges(t *testing.T) {
	edges := []int64{least, least + 1, -1 << 32, -2, -1, 0, 1, 2, 3, 4, 5, 6, 1 << 31, 1 << 32, 1<<32 + 1, most - 1, most}
	for many := range int64(6) {
		for _, n := range edges {
			for _, off := range edges {
				f := limit(n, off, given(upTo(many)))
				gives(t, f, plainSteps(f))
			}
		}
	}
}

// P14.2: Distinct gives each row that was not given before.
func TestDistinct(t *testing.T) {
	gives(t, distinct(given(nums(3, 1, 3, 3, 2, 1))), some(1, [2]int64{3, 1}, [2]int64{1, 1}, [2]int64{2, 3}))
	gives(t, distinct(given(nil)), some(0))
	gives(t, distinct(distinct(given(nums(1, 1, 2)))), some(0, [2]int64{1, 1}, [2]int64{2, 2}))
	gives(t, distinct(given(list(nil, row(), row(null()), nil, row(null(), null()), row(null())))), []step{{nil, true, api.OK, 1}, {row(null()), true, api.OK, 2}, {row(null(), null()), true, api.OK, 2}, {pulls: 1}})
	gives(t, distinct(filter(tried(at(0)), given(nums(1, 1, 2, 1, 0)))), failing(api.ErrZero, 2, [2]int64{1, 1}, [2]int64{2, 2}))
	var l []api.Row
	for _, s := range []string{"", "\x00", "'", "', '", "','", ",", "1", "NULL", "a", "a'", "ab", "x'00'", "\xff"} {
		l = append(l, row(text(s)), row(blob(s)), row(text(s), null()), row(null(), text(s)), row(text(s), text(s)))
	}
	l = append(l, row(no()), row(yes()), row(num(0)), row(num(most)), row(num(least)), row(num(12)), row(num(1), num(2)), row(num(1), num(23)), row(num(12), num(3)), row(text("a"), text("b")), row(text("a,b")), row(text("a','b")), row(text("a'"), text("'b")), row(text("a',"), text("b")), row(text("ab"), text("")), row(text(""), text("ab")))
	for many := 3; many <= 64; many++ {
		long := make(api.Row, many)
		last := slices.Clone(long)
		last[many-1] = yes()
		l = append(l, long, last)
	}
	var want []step
	for _, r := range l {
		want = append(want, step{r, true, api.OK, 1})
	}
	want[0].pulls = 1
	gives(t, distinct(given(slices.Concat(l, l))), append(want, step{pulls: len(l)}))
}

// P14.2: Then gives all of the first, then all of the second, and pulls nothing ahead of that.
func TestThen(t *testing.T) {
	none := given(nil)
	gives(t, then(), some(0))
	gives(t, then(none), some(0))
	gives(t, then(then(), none, then(none, then())), some(0))
	gives(t, then(given(nums(1, 2))), some(0, [2]int64{1, 1}, [2]int64{2, 1}))
	gives(t, then(given(nums(2, 1)), none, then(), given(nums(1)), given(nums(3, 1))), some(0, [2]int64{2, 1}, [2]int64{1, 1}, [2]int64{1, 1}, [2]int64{3, 1}, [2]int64{1, 1}))
	e := filter(above(0, 1), given(nums(1, 2, 1)))
	gives(t, then(e, e, e), some(1, [2]int64{2, 2}, [2]int64{2, 3}, [2]int64{2, 3}))
	gives(t, limit(3, 0, then(e, e, e)), some(0, [2]int64{2, 2}, [2]int64{2, 3}, [2]int64{2, 3}))
	gives(t, limit(1, 1, then(e, e, e)), some(0, [2]int64{2, 5}))
	wrong := filter(tried(at(0)), given(nums(1, 0, 1)))
	gives(t, then(given(nums(7)), wrong, given(nums(8))), failing(api.ErrZero, 1, [2]int64{7, 1}, [2]int64{1, 1}))
	gives(t, limit(2, 0, then(given(nums(7)), wrong, given(nums(8)))), some(0, [2]int64{7, 1}, [2]int64{1, 1}))
	gives(t, then(wrong, filter(lit(num(1)), given(nums(1)))), failing(api.ErrZero, 1, [2]int64{1, 1}))
	gives(t, then(given(list(row(num(1), num(2)), nil)), given(nums(1))), []step{{row(num(1), num(2)), true, api.OK, 1}, {nil, true, api.OK, 1}, {row(num(1)), true, api.OK, 1}, {}})
}

// P14.2: flows at random, against the plain way.
func TestNextAny(t *testing.T) {
	m := newMaker(1)
	count, ops, less := map[api.Errno]int{}, map[string]int{}, 0
	for range 20000 {
		f := m.flow(1+m.Intn(6), m.Intn(3))
		want := plainSteps(f)
		gives(t, f, want)
		count[want[len(want)-1].err]++
		if len(want) > 2 {
			ops[f.Op]++
		}
		if _, _, pulled := plainDrained(want); pulled < rowsIn(f) {
			less++
		}
	}
	for _, err := range []api.Errno{api.ErrZero, api.ErrOver, api.ErrType} {
		if count[err] < 40 {
			t.Errorf("%d: only %d", err, count[err])
		}
	}
	if count[api.OK] < 10000 || less < 2000 || len(ops) != 6 {
		t.Errorf("got %v, %v, %d", count, ops, less)
	}
	for o, many := range ops {
		if many < 300 {
			t.Errorf("%s: only %d", o, many)
		}
	}
}

// rowsIn is how many rows a flow has in all.
func rowsIn(f api.Flow) int {
	many := len(f.Rows)
	for _, part := range f.L {
		many += rowsIn(part)
	}
	return many
}
