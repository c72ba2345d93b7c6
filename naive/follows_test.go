package naive_test

import (
	"slices"
	"strconv"
	"testing"

	"boscage/api"
	"boscage/naive"
)

// over is an expression of what expressions reckon, with these put for its places.
func over(e api.Expr, es []api.Expr) api.Expr {
	if e.Op == "at" {
		return es[e.V.I]
	}
	e.L = slices.Clone(e.L)
	for i := range e.L {
		e.L[i] = over(e.L[i], es)
	}
	return e
}

// follows asks whether algebra tells what other algebra does, where that has no error; it tells whether that has rows.
func follows(t *testing.T, a, from api.Alg, db []api.Data) bool {
	t.Helper()
	want, err := naive.Run(from, db)
	if err != api.OK {
		return false
	}
	if got, e := naive.Run(a, db); e != api.OK || !same(got, want) {
		t.Fatalf("%v: got %s, %d, want %s", a, told(got), e, told(want))
	}
	return len(want) > 0
}

// P13.4: two filters are one with AND of both; a filter behind a project is one ahead of it, on what the project reckons.
func TestFiltersFollow(t *testing.T) {
	m := newMaker(3)
	ands, projects := 0, 0
	for range 20000 {
		x, db := m.alg(2+m.Intn(3), 2), m.data()
		a, b := m.condition(x.Wide), m.condition(x.Wide)
		if follows(t, filter(b, filter(a, x)), filter(op("and", a, b), x), db) {
			ands++
		}
		es := m.exprs(m.Intn(4), x.Wide)
		e := m.condition(len(es))
		if follows(t, project(es, filter(over(e, es), x)), filter(e, project(es, x)), db) {
			projects++
		}
	}
	if ands < 2000 || projects < 2000 {
		t.Errorf("only %d and %d", ands, projects)
	}
}

// P13.4: Run hangs on Tables alone, the first of each name, and on nothing asked ahead; on each of these, if there is no error.
func TestTablesAlone(t *testing.T) {
	m := newMaker(4)
	named := 0
	for range 8000 {
		a, db := m.alg(2+m.Intn(4), 4), m.data()
		want, err := naive.Run(a, db)
		names := naive.Tables(a)
		other := slices.DeleteFunc(slices.Clone(db), func(d api.Data) bool { return !slices.Contains(names, d.Table) && m.is(2) })
		for i, d := range other {
			if !slices.Contains(names, d.Table) {
				other[i].L = append(m.rows(3, m.Intn(4)), row(odd()[0]))
			}
		}
		for i := range 3 {
			other = slices.Insert(other, m.Intn(len(other)+1), api.Data{Table: "other" + strconv.Itoa(i), L: m.rows(3, 2)})
		}
		m.Shuffle(len(other), func(i, k int) { other[i], other[k] = other[k], other[i] })
		for _, d := range db {
			if slices.Contains(names, d.Table) || m.is(2) {
				other = append(other, api.Data{Table: d.Table, L: m.rows(3, 2)})
			}
		}
		fits(t, a, other, true)
		runs(t, a, other, want, err)
		for _, name := range names {
			less := slices.DeleteFunc(slices.Clone(db), func(d api.Data) bool { return d.Table == name })
			if l, e := naive.Run(a, less); len(l) > 0 || e == api.OK || err == api.OK && e != api.ErrNone {
				t.Fatalf("%v: without %s got %s, %d", a, name, told(l), e)
			}
			named++
		}
	}
	if named < 5000 {
		t.Errorf("only %d", named)
	}
}
