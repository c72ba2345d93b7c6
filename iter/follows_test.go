package iter_test

import (
	"slices"
	"testing"

	"boscage/api"
	"boscage/iter"
	"boscage/rows"
)

// whole is what rows does with whole lists, as a flow says.
func whole(f api.Flow) ([]api.Row, api.Errno) {
	var l []api.Row
	for _, part := range f.L {
		more, err := whole(part)
		if err != api.OK {
			return nil, err
		}
		if l, err = rows.Put("unionall", l, more); err != api.OK {
			return nil, err
		}
	}
	switch f.Op {
	case "rows":
		return f.Rows, api.OK
	case "filter":
		return rows.Filter(l, f.E)
	case "project":
		return rows.Project(l, f.Es)
	case "limit":
		return rows.Limit(l, f.N, f.Off), api.OK
	case "distinct":
		return rows.Distinct(l), api.OK
	}
	return l, api.OK
}

// limits tells whether there is a limit in a flow.
func limits(f api.Flow) bool { return f.Op == "limit" || slices.ContainsFunc(f.L, limits) }

// P14.4: drained it gives what rows does with whole lists, and again the same; an error there is one here, where no limit lets it go.
func TestDrainFollows(t *testing.T) {
	m := newMaker(3)
	good, bad, lazy := 0, 0, 0
	for range 20000 {
		f := m.flow(1+m.Intn(6), m.Intn(3))
		want, err := whole(f)
		x, e := iter.Make(f)
		if e != api.OK {
			t.Fatalf("got %d", e)
		}
		first, e := iter.Drain(x)
		pulled := x.Pulled()
		again, other := iter.Drain(x)
		if !same(first, again) || e != other || x.Pulled() != pulled {
			t.Fatalf("got %s, %d, and then %s, %d", told(first...), e, told(again...), other)
		}
		switch {
		case err == api.OK:
			if !same(first, want) || e != api.OK {
				t.Fatalf("got %s, %d, want %s", told(first...), e, told(want...))
			}
			if len(want) > 0 {
				good++
			}
		case !limits(f):
			if e == api.OK {
				t.Fatalf("got %s, want %d", told(first...), err)
			}
			bad++
		case e == api.OK:
			lazy++
		}
	}
	if good < 5000 || bad < 200 || lazy < 20 {
		t.Errorf("only %d, %d and %d", good, bad, lazy)
	}
}

// P14.4: one operator, with the very error that rows has.
func TestOneFollows(t *testing.T) {
	m := newMaker(4)
	bad := 0
	for range 10000 {
		wide := m.Intn(3)
		l := given(m.rows(8, wide))
		for _, f := range []api.Flow{filter(m.condition(wide), l), project(l, m.expr(wide), m.expr(wide)), limit(int64(m.Intn(10)-1), int64(m.Intn(10)-1), l), distinct(l), then(l, l)} {
			want, err := whole(f)
			got, e := iter.Drain(built(f))
			if !same(got, want) || e != err {
				t.Fatalf("got %s, %d, want %s, %d", told(got...), e, told(want...), err)
			}
			if err != api.OK {
				bad++
			}
		}
	}
	if bad < 500 {
		t.Errorf("only %d", bad)
	}
}
