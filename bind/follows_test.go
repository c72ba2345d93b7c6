package bind_test

import (
	"math/rand"
	"reflect"
	"slices"
	"strconv"
	"testing"

	"boscage/api"
	"boscage/bind"
)

// maker makes queries and algebra at random, but the same ones each time.
type maker struct{ *rand.Rand }

func newMaker(seed int64) maker { return maker{rand.New(rand.NewSource(seed))} }

func pick[T any](m maker, l ...T) T { return l[m.Intn(len(l))] }

func (m maker) is(oneIn int) bool { return m.Intn(oneIn) == 0 }

// from is of up to some tables, and the names that cols may have in it: mostly good ones.
func (m maker) from(tables int, free *[]string) (api.From, []api.Expr) {
	if tables > 1 && !m.is(3) {
		left := 1 + m.Intn(tables-1)
		a, x := m.from(left, free)
		b, y := m.from(tables-left, free)
		l := slices.Concat(x, y)
		f := join(pick(m, kinds()...), a, b, api.Expr{})
		if f.Join != "cross" {
			f.On = m.expr(2, l, 60)
		}
		return f, l
	}
	if m.is(40) {
		return table("v"), []api.Expr{col("a")}
	}
	of := pick(m, cols("t", "a", "b"), cols("t", "a", "b"), cols("u", "b", "c"), cols("u", "b", "c"), cols("o", "a"), cols("d", "b"), cols("z"), wide("h", 32), wide("w", 64))
	if len(of.L) > 30 && !m.is(6) {
		of = cols("t", "a", "b")
	}
	name := of.Table
	if l := *free; !m.is(12) {
		name, *free = l[0], l[1:]
	}
	var l []api.Expr
	for _, c := range of.L[:min(len(of.L), 4)] {
		l = append(l, colOf(name, c.Name))
		if m.is(4) {
			l = append(l, col(c.Name))
		}
	}
	return as(of.Table, name), l
}

// expr is one of some cols; one in so many has a part that may not stand there.
func (m maker) expr(depth int, l []api.Expr, odd int) api.Expr {
	if m.is(odd) {
		return pick(m, col("n"), call("count", star()), call("max", col("a")), colOf("t", "a"), col("a"))
	}
	if depth <= 1 || m.is(3) {
		if len(l) == 0 || m.is(5) {
			return lit(pick(m, num(1), num(2), null(), text("a"), yes()))
		}
		return pick(m, l...)
	}
	part := func() api.Expr { return m.expr(depth-1, l, odd) }
	return pick(m, func() api.Expr { return op(pick(m, "+", "=", "and", "like", "||", "<"), part(), part()) },
		func() api.Expr { return op(pick(m, "neg", "not", "isnull"), part()) },
		func() api.Expr { return op("in", part(), part(), part()) },
		func() api.Expr { return op("between", part(), part(), part()) },
		func() api.Expr { return call(pick(m, "f", "abs", "counts"), part(), part()) })()
}

// behind is an expression of keys and aggregates.
func (m maker) behind(depth int, keys, l []api.Expr) api.Expr {
	parts := slices.Clone(keys)
	for range 2 {
		parts = append(parts, call(pick(m, aggregates()...), m.expr(2, l, 40)))
	}
	parts = append(parts, call("count", star()))
	if m.is(30) {
		parts = append(parts, call("sum"), call("max", parts[0], parts[0]), call("min", call("count", star())))
	}
	if m.is(12) {
		parts = append(parts, l...)
	}
	return m.expr(depth, parts, 60)
}

func (m maker) exprs(n int, one func() api.Expr) []api.Expr {
	var out []api.Expr
	for range n {
		out = append(out, one())
	}
	return out
}

func (m maker) selected() api.Query {
	free := []string{"x", "y", "t", "k", "m", "g"}
	q := one(api.Select{Distinct: m.is(4)})
	s := &q.S
	var l []api.Expr
	if !m.is(10) {
		s.From, l = m.from(1+m.Intn(4), &free)
	}
	if m.is(3) {
		s.Where = m.expr(3, l, 60)
	}
	item := func() api.Expr { return m.expr(3, l, 60) }
	if m.is(2) {
		s.Group = m.exprs(m.Intn(4), func() api.Expr { return m.expr(2, l, 60) })
		item = func() api.Expr { return m.behind(3, s.Group, l) }
		if m.is(2) {
			s.Having = m.behind(3, s.Group, l)
		}
	}
	many := 1 + m.Intn(4)
	if m.is(20) {
		many = 60 + m.Intn(10)
	}
	for range many {
		i := api.Item{E: item(), As: pick(m, "", "", "n", "a", "b", "e")}
		if m.is(15) {
			i = api.Item{Star: true, Table: pick(m, "", "x", "y", "t")}
		}
		s.Items = append(s.Items, i)
	}
	return q
}

func (m maker) query(depth int) api.Query {
	q := m.selected()
	if depth > 1 && m.is(3) {
		q = put(pick(m, puts()...), m.query(depth-1), m.query(depth-1))
		if m.is(2) && q.L[1].Op == "select" {
			q.L[1] = q.L[0]
		}
	}
	if m.is(3) {
		for range 1 + m.Intn(2) {
			q.Order = append(q.Order, api.Key{E: m.expr(2, []api.Expr{lit(num(1)), col("n"), col("a")}, 20), Desc: m.is(2)})
		}
	}
	if m.is(4) {
		q.Limit, q.Offset = int64(m.Intn(3)), int64(m.Intn(3)-1)
	}
	return q
}

// P12.1: at random, against the plain way.
func TestQueryAny(t *testing.T) {
	m, db := newMaker(1), tables()
	count := map[api.Errno]int{}
	ops := map[string]int{}
	for range 12000 {
		q := m.query(3)
		want, names, err := plainQuery(q, db)
		got, theirs, e := queries(t, q, db)
		if shown(got) != shown(want) || e != err || !slices.Equal(names, theirs) {
			t.Fatalf("%s: got %s, %q, %d, want %s, %q, %d", shown(q), told(got), theirs, e, told(want), names, err)
		}
		count[err]++
		for _, a := range nodes(&got) {
			ops[a.Op]++
		}
	}
	for _, err := range []api.Errno{api.OK, api.ErrName, api.ErrUse, api.ErrLong} {
		if count[err] < 200 {
			t.Errorf("%d: only %d", err, count[err])
		}
	}
	for _, o := range []string{"scan", "one", "filter", "project", "join", "group", "distinct", "put", "sort", "limit"} {
		if ops[o] < 200 {
			t.Errorf("%s: only %d", o, ops[o])
		}
	}
}

// nodes are all of algebra.
func nodes(a *api.Alg) []*api.Alg {
	l := []*api.Alg{a}
	for i := range a.L {
		l = append(l, nodes(&a.L[i])...)
	}
	return l
}

// P12.4: the algebra hangs on the tables that are named alone, the first of each name.
func TestTablesAlone(t *testing.T) {
	m := newMaker(2)
	for range 3000 {
		q := m.query(2)
		named := map[string]int{}
		lists(reflect.ValueOf([]api.Query{q}), func(v reflect.Value) {
			for i := range v.Len() {
				count(v.Index(i), named)
			}
		})
		var db []api.Cols
		for _, c := range tables() {
			if named[c.Table] == 0 && m.is(2) {
				continue
			}
			db = append(db, c)
		}
		for i := range 3 { // others between, and second ones behind
			place := m.Intn(len(db) + 1)
			db = slices.Insert(db, place, wide("other"+strconv.Itoa(i), 64+m.Intn(3)))
		}
		for _, c := range tables() {
			db = append(db, cols(c.Table, "a", "n"))
		}
		for i := range db { // nor on what is said of columns besides their names
			db[i] = copied(db[i])
			for k := range db[i].L {
				c := &db[i].L[k]
				c.Type, c.NotNull, c.Unique, c.Primary = m.Intn(6), m.is(2), m.is(2), m.is(2)
			}
		}
		a, l, err := queries(t, q, tables())
		b, other, e := queries(t, q, db)
		if shown(a) != shown(b) || !slices.Equal(l, other) || err != e {
			t.Fatalf("%s: got %s, %q, %d, want %s, %q, %d", shown(q), told(b), other, e, told(a), l, err)
		}
	}
}

// count counts the tables that a thing has besides its lists.
func count(v reflect.Value, named map[string]int) {
	if f, ok := v.Interface().(api.From); ok {
		named[f.Table]++
	}
	if v.Kind() == reflect.Struct {
		for i := range v.NumField() {
			count(v.Field(i), named)
		}
	}
}

// spoilt is a thing with one of its parts, however deep, put as another one.
func spoilt[T any](m maker, x T) T {
	v := reflect.New(reflect.TypeOf(x)).Elem()
	v.Set(reflect.ValueOf(copied(x)))
	var parts []reflect.Value
	var gather func(v reflect.Value)
	gather = func(v reflect.Value) {
		switch v.Kind() {
		case reflect.Struct:
			for i := range v.NumField() {
				gather(v.Field(i))
			}
			return
		case reflect.Slice:
			for i := range v.Len() {
				gather(v.Index(i))
			}
		}
		parts = append(parts, v)
	}
	gather(v)
	p := pick(m, parts...)
	switch p.Kind() {
	case reflect.Slice:
		if n := p.Len(); n > 0 && m.is(2) {
			p.Set(p.Slice(0, n-1))
		} else {
			p.Set(reflect.Append(p, reflect.Zero(p.Type().Elem())))
		}
	case reflect.String:
		p.SetString(pick(m, "", "a", "t", "x", "z", "col", "star", "at", "lit", "call", "count", "sum", "neg", "+", "select", "union", "cross", "left", "inner", "scan", "one", "filter", "distinct", "limit", "join", "put", "sort", "group", "project"))
	case reflect.Bool:
		p.SetBool(!p.Bool())
	default:
		p.SetInt(pick(m, int64(least), -2, -1, 0, 1, 2, 3, 4, 5, 63, 64, 65, most, p.Int()+1, p.Int()-1))
	}
	return v.Interface().(T)
}

// P12.4, R1: of queries that are none it ends, and what it makes may be.
func TestQueryOdd(t *testing.T) {
	m := newMaker(3)
	count := map[api.Errno]int{}
	for range 10000 {
		q, db := m.query(2), tables()
		for range 1 + m.Intn(3) {
			q = spoilt(m, q)
		}
		if m.is(4) {
			db = spoilt(m, db)
		}
		_, _, err := queries(t, q, db)
		count[err]++
	}
	if min(count[api.OK], count[api.ErrArg], count[api.ErrUse], count[api.ErrName]) < 500 {
		t.Errorf("only %v", count)
	}
}

// P12.3: at random, against the plain way: algebra with some parts put as others.
func TestCheckAny(t *testing.T) {
	m := newMaker(4)
	good, bad := 0, 0
	for range 10000 {
		a, _, err := bind.Query(m.query(2), tables())
		if err != api.OK {
			continue
		}
		for range 5 {
			x, db := a, tables()
			for range 1 + m.Intn(2) {
				x = spoilt(m, x)
			}
			if m.is(8) {
				db = spoilt(m, db)
			}
			want := plainCheck(x, db)
			checks(t, x, db, want)
			if want {
				good++
			} else {
				bad++
			}
		}
	}
	if good < 300 || bad < 3000 {
		t.Errorf("only %d and %d", good, bad)
	}
}

// checks asks what Check answers, and that it changes nothing.
func checks(t *testing.T, a api.Alg, db []api.Cols, want bool) {
	t.Helper()
	a, db = copied(a), copied(db)
	before := shownWhole(a) + shownWhole(db)
	if got := bind.Check(a, db); got != want {
		t.Fatalf("%s: got %t, want %t", shown(a), got, want)
	}
	if shownWhole(a)+shownWhole(db) != before {
		t.Fatalf("%s: was changed", before)
	}
}
