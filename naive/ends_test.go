package naive_test

import (
	"reflect"
	"testing"

	"boscage/api"
	"boscage/bind"
	"boscage/naive"
)

// ends asks that all calls end; that they change nothing, and that there are no rows beside an error.
func ends(t *testing.T, a api.Alg, db []api.Data) api.Errno {
	t.Helper()
	handed, over := hold(a), hold(db)
	l, err := naive.Run(handed.now, over.now)
	if err != api.OK && len(l) > 0 {
		t.Fatalf("%v: got %s, %d", a, told(l), err)
	}
	naive.Fits(handed.now, over.now)
	naive.Tables(handed.now)
	if !handed.stays() || !over.stays() {
		t.Fatalf("%v: what was handed in was changed", a)
	}
	return err
}

// R1: of nodes that have too few or too many others, or are none, it ends.
func TestEnds(t *testing.T) {
	ops := []string{"", "scan", "one", "filter", "project", "join", "group", "distinct", "put", "sort", "limit", "Scan", "select", "cross", "union", "at", "\x00"}
	var l []api.Alg
	for _, part := range []api.Alg{{}, one(), scan("t", 2), scan("none", 2), {Op: "filter"}, {Op: "odd", Wide: -1}, {Op: "one", Wide: most}, {Op: "scan", Table: "v", Wide: least}} {
		for many := range 4 {
			l = nil
			for range many {
				l = append(l, part)
			}
			for _, o := range ops {
				for _, kind := range append(append(kinds(), puts()...), "", "odd") {
					ends(t, api.Alg{Op: o, Kind: kind, L: l}, data())
					ends(t, api.Alg{Op: o, Kind: kind, Table: "t", Wide: -1, E: at(1), Es: ats(0, 2), Aggs: []api.Agg{{}, {Name: "sum", Star: true}}, Keys: []api.Key{{}, {E: at(5)}}, N: least, Off: most, L: l}, nil)
				}
			}
		}
	}
	for _, e := range []api.Expr{{}, at(-1), at(2), at(most), {Op: "col", Name: "a"}, {Op: "star"}, op("and"), op("=", at(0)), lit(api.Value{Kind: 9}), call("sum", at(0)), {Op: "odd", L: []api.Expr{at(0)}}} {
		for _, a := range []api.Alg{filter(e, scan("t", 2)), project([]api.Expr{e, e}, scan("u", 2)), join("full", e, scan("t", 2), scan("u", 2)), group([]api.Expr{e}, []api.Agg{{Name: "sum", E: e}, {Name: "odd", E: e}}, scan("t", 2)), group(nil, []api.Agg{{Name: "max", E: e}}, scan("t", 2)), sorted([]api.Key{{E: e}}, scan("t", 2))} {
			ends(t, a, data())
		}
	}
}

// spoilt is algebra, or data, with one of its parts, however deep, put as another one.
func spoilt[T any](m maker, x T) T {
	v := reflect.New(reflect.TypeOf(x)).Elem()
	v.Set(reflect.ValueOf(copied(x)))
	var parts []reflect.Value
	var gather func(v reflect.Value)
	gather = func(v reflect.Value) {
		switch v.Kind() {
		case reflect.Struct:
			for i := range v.NumField() {
				gather(v.Field(i))
			}
			return
		case reflect.Slice:
			for i := range v.Len() {
				gather(v.Index(i))
			}
		}
		parts = append(parts, v)
	}
	gather(v)
	switch p := pick(m, parts...); p.Kind() {
	case reflect.Slice:
		if n := p.Len(); n > 0 && m.is(2) {
			p.Set(p.Slice(0, n-1))
		} else {
			p.Set(reflect.Append(p, reflect.Zero(p.Type().Elem())))
		}
	case reflect.String:
		p.SetString(pick(m, "", "a", "t", "u", "col", "star", "at", "lit", "call", "count", "sum", "neg", "+", "union", "except", "cross", "left", "full", "scan", "one", "filter", "distinct", "limit", "join", "put", "sort", "group", "project"))
	case reflect.Bool:
		p.SetBool(!p.Bool())
	default:
		p.SetInt(pick(m, int64(least), -2, -1, 0, 1, 2, 3, 4, 5, 63, 64, 65, most, p.Int()+1, p.Int()-1))
	}
	return v.Interface().(T)
}

// R1: at random, of algebra and data with parts put as others.
func TestEndsAny(t *testing.T) {
	m := newMaker(5)
	none := 0
	for range 10000 {
		a, db := m.alg(2+m.Intn(4), 3), m.data()
		for range 1 + m.Intn(3) {
			a = spoilt(m, a)
			if m.is(3) {
				db = spoilt(m, db)
			}
		}
		ends(t, a, db)
		if !bind.Check(a, tables()) {
			none++
		}
	}
	if none < 4000 {
		t.Errorf("only %d", none)
	}
}

// The bound of DOC.md: of algebra whose nodes are nested as deep as may be it ends.
func TestDeep(t *testing.T) {
	const deep = 1<<16 - 1
	v := scan("v", 1)
	for name, above := range map[string]func(a api.Alg) api.Alg{
		"filter":   func(a api.Alg) api.Alg { return filter(op("notnull", at(0)), a) },
		"project":  func(a api.Alg) api.Alg { return project(ats(0, 1), a) },
		"sort":     func(a api.Alg) api.Alg { return sorted([]api.Key{{E: at(0)}}, a) },
		"distinct": distinct,
		"limit":    func(a api.Alg) api.Alg { return limit(-1, 0, a) },
		"left":     func(a api.Alg) api.Alg { return put("intersect", a, v) },
		"right":    func(a api.Alg) api.Alg { return put("union", v, a) },
	} {
		a := v
		for range deep {
			a = above(a)
		}
		db := []api.Data{{Table: "v", L: nums(2, 5)}}
		if l, err := naive.Run(a, db); !same(l, nums(2, 5)) || err != api.OK {
			t.Errorf("%s: got %s, %d", name, told(l), err)
		}
		if l, err := naive.Run(a, nil); len(l) > 0 || err != api.ErrNone {
			t.Errorf("%s: got %s, %d", name, told(l), err)
		}
		db[0].L[1] = row(num(1), num(2))
		if l := naive.Tables(a); naive.Fits(a, db) || !naive.Fits(a, nil) || len(l) != 1 || l[0] != "v" {
			t.Errorf("%s: got %q", name, l)
		}
	}
}
