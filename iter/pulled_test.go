package iter_test

import (
	"testing"

	"boscage/api"
	"boscage/iter"
)

func pulls(t *testing.T, x *iter.Iter, want int) {
	t.Helper()
	if got := x.Pulled(); got != want {
		t.Fatalf("got %d pulled, want %d", got, want)
	}
}

// P14.3: Pulled tells of all Rows in it, since it was opened last; 0 ahead of that; behind Close as ahead of it.
func TestPulled(t *testing.T) {
	a, b, c := iter.Rows(upTo(2)), iter.Rows(upTo(5)), iter.Rows(upTo(5))
	f := iter.Filter(b, above(0, 2))
	both := iter.Then(f, c)
	x := iter.Then(a, iter.Limit(both, 4, 0))
	ask := func(l ...int) {
		t.Helper()
		for i, y := range []*iter.Iter{x, a, b, c, f, both} {
			pulls(t, y, l[i])
		}
	}
	ask(0, 0, 0, 0, 0, 0)
	x.Close()
	ask(0, 0, 0, 0, 0, 0)
	for range 3 {
		x.Open()
		for _, l := range [][]int{{0, 0, 0, 0, 0, 0}, {1, 1, 0, 0, 0, 0}, {2, 2, 0, 0, 0, 0}, {5, 2, 3, 0, 3, 3}, {6, 2, 4, 0, 4, 4}, {7, 2, 5, 0, 5, 5}, {8, 2, 5, 1, 5, 6}, {8, 2, 5, 1, 5, 6}, {8, 2, 5, 1, 5, 6}} {
			ask(l...)
			ask(l...)
			x.Next()
		}
		x.Close()
		ask(8, 2, 5, 1, 5, 6)
		x.Next()
		x.Close()
		ask(8, 2, 5, 1, 5, 6)
	}
	x.Open()
	ask(0, 0, 0, 0, 0, 0)
	x.Close()
	ask(0, 0, 0, 0, 0, 0)
}

// P14.3: what is opened by itself counts anew for itself alone; what was never opened counts nothing.
func TestPulledBelow(t *testing.T) {
	l := iter.Rows(upTo(9))
	f := iter.Filter(l, above(0, 1))
	x := iter.Limit(f, 5, 0)
	f.Open()
	f.Next()
	pulls(t, l, 2)
	pulls(t, f, 2)
	pulls(t, x, 0)
	x.Open()
	pulls(t, f, 0)
	x.Next()
	x.Next()
	pulls(t, l, 3)
	pulls(t, x, 3)
	l.Open()
	pulls(t, l, 0)
	pulls(t, f, 3)
	pulls(t, x, 3)
	l.Next()
	pulls(t, l, 1)
	pulls(t, f, 4)
	pulls(t, x, 4)
	x.Open()
	pulls(t, l, 0)
	pulls(t, f, 0)
	pulls(t, x, 0)
}

// P14.3: rows that are asked for count, also those that an error or a filter lets go.
func TestPulledError(t *testing.T) {
	x := iter.Project(iter.Rows(nums(2, 0, 1)), []api.Expr{op("/", lit(num(6)), at(0))})
	for range 2 {
		x.Open()
		next(t, x, step{r: row(num(3)), is: true}, 1)
		for range 3 {
			next(t, x, step{err: api.ErrZero}, 2)
		}
		x.Close()
		pulls(t, x, 2)
	}
}

// P14.3: Drain opens, asks till the end or an error, and closes; wherever it stood.
func TestDrain(t *testing.T) {
	for _, f := range []api.Flow{given(nil), given(upTo(5)), then(), limit(0, 0, given(upTo(3))), limit(2, 1, given(upTo(9))), filter(tried(at(0)), given(nums(1, 2, 0, 3))), distinct(then(given(upTo(4)), given(upTo(5)))), project(given(upTo(3)), at(0), at(0))} {
		want := plainSteps(f)
		x := built(f)
		drains(t, x, want)
		for many := range len(want) + 2 {
			x.Open()
			goes(t, x, want, many)
			if many%3 == 0 {
				x.Close()
			}
			drains(t, x, want)
		}
		drains(t, iter.Limit(x, -1, 0), want)
		closed(t, x, x.Pulled())
	}
}

// P14.2: an error, and a place behind the end, is told ever on, whatever is asked of what it works on.
func TestStays(t *testing.T) {
	l := iter.Rows(nums(1, 0))
	f := iter.Filter(l, tried(at(0)))
	x := iter.Then(f, iter.Rows(nums(5)))
	x.Open()
	x.Next()
	for range 3 {
		next(t, x, step{err: api.ErrZero}, 2)
		f.Open()
	}
	y := iter.Distinct(iter.Then(l))
	y.Open()
	next(t, y, step{r: row(num(1)), is: true}, 1)
	next(t, y, step{r: row(num(0)), is: true}, 2)
	for range 3 {
		next(t, y, step{}, 2)
		l.Open()
	}
}

// R5: nothing hangs on what was asked of another one, also one that was made of the same.
func TestApart(t *testing.T) {
	m := newMaker(2)
	for range 2000 {
		f, g := m.flow(1+m.Intn(5), 2), m.flow(1+m.Intn(5), 2)
		type asked struct {
			x            *iter.Iter
			want         []step
			place, pulls int
		}
		l := []*asked{{x: built(f), want: plainSteps(f)}, {x: built(f), want: plainSteps(f)}, {x: built(g), want: plainSteps(g)}}
		for _, a := range l {
			a.x.Open()
		}
		for range 30 {
			a := pick(m, l...)
			if m.is(20) {
				a.x.Open()
				a.place, a.pulls = 0, 0
			}
			s := step{err: a.want[len(a.want)-1].err}
			if a.place < len(a.want) {
				s = a.want[a.place]
			}
			a.pulls += s.pulls
			a.place++
			next(t, a.x, s, a.pulls)
		}
	}
}
