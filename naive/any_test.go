package naive_test

import (
	"math/rand"
	"slices"
	"testing"

	"boscage/api"
	"boscage/bind"
	"boscage/rows"
	"boscage/value"
)

// maker makes algebra and rows at random, but the same ones each time.
type maker struct{ *rand.Rand }

func newMaker(seed int64) maker { return maker{rand.New(rand.NewSource(seed))} }

func pick[T any](m maker, l ...T) T { return l[m.Intn(len(l))] }

func (m maker) is(oneIn int) bool { return m.Intn(oneIn) == 0 }

// value is mostly a small number, or NULL; seldom one of another Kind.
func (m maker) value() api.Value {
	if m.is(40) {
		return pick(m, text("a"), text("1"), blob("a"), yes(), no(), num(-1))
	}
	return pick(m, null(), num(1), num(2), num(3), num(2), num(1))
}

func (m maker) rows(atMost, wide int) []api.Row {
	var l []api.Row
	for range m.Intn(atMost + 1) {
		r := api.Row{}
		for range wide {
			r = append(r, m.value())
		}
		l = append(l, r)
	}
	return l
}

// data is rows of tables().
func (m maker) data() []api.Data {
	var db []api.Data
	for _, c := range tables() {
		db = append(db, api.Data{Table: c.Table, L: m.rows(5, len(c.L))})
	}
	return db
}

func (m maker) place(wide int) api.Expr {
	if wide == 0 || m.is(8) {
		return lit(m.value())
	}
	return at(m.Intn(wide))
}

// tried is ErrZero of 0, ErrOver of -1, ErrType of what is neither NULL nor an Int.
func tried(e api.Expr) api.Expr { return op("<", op("/", lit(num(least)), e), lit(num(0))) }

// expr is one of a row so wide.
func (m maker) expr(wide int) api.Expr {
	x, y := m.place(wide), m.place(wide)
	if m.is(20) {
		return pick(m, tried(op("-", x, y)), m.condition(wide))
	}
	return pick(m, x, x, x, op("+", x, y), op("-", x, y), call("coalesce", x, y), call("nullif", x, y))
}

// condition is mostly a truth.
func (m maker) condition(wide int) api.Expr {
	x, y := m.place(wide), m.place(wide)
	if m.is(20) {
		return pick(m, tried(op("-", x, y)), x)
	}
	return pick(m, op("=", x, y), op("<", x, y), op("<>", x, y), op("isnull", x), op("notnull", x), op("in", x, y, m.place(wide)), op("or", op("=", x, y), op("isnull", y)), lit(yes()), lit(null()))
}

func (m maker) exprs(many, wide int) []api.Expr {
	var l []api.Expr
	for range many {
		l = append(l, m.expr(wide))
	}
	return l
}

// alg is algebra of up to so many tables, mostly of those that there are.
func (m maker) alg(deep, tables int) api.Alg {
	if deep <= 1 {
		if m.is(60) {
			return scan("none", 1)
		}
		return pick(m, scan("t", 2), scan("t", 2), scan("u", 2), scan("u", 2), scan("v", 1), scan("z", 0), scan("nil", 3), one())
	}
	if tables > 1 && m.is(2) {
		left := 1 + m.Intn(tables-1)
		return m.both(m.alg(deep-1, left), m.alg(deep-1, tables-left))
	}
	return m.above(m.alg(deep-1, tables))
}

// both is two put together, or joined.
func (m maker) both(a, b api.Alg) api.Alg {
	if m.is(3) {
		if a.Wide != b.Wide {
			many := m.Intn(3)
			a, b = project(m.exprs(many, a.Wide), a), project(m.exprs(many, b.Wide), b)
		}
		return put(pick(m, puts()...), a, b)
	}
	kind := pick(m, kinds()...)
	if kind == "cross" {
		return cross(a, b)
	}
	return join(kind, m.condition(a.Wide+b.Wide), a, b)
}

// above is a node that works on one other.
func (m maker) above(a api.Alg) api.Alg {
	switch m.Intn(7) {
	case 0, 1:
		return filter(m.condition(a.Wide), a)
	case 2:
		return project(m.exprs(m.Intn(4), a.Wide), a)
	case 3:
		return m.grouped(a)
	case 4:
		return distinct(a)
	case 5:
		return m.sorted(a)
	}
	return limit(int64(m.Intn(6)-1), int64(m.Intn(4)-1), a)
}

func (m maker) grouped(a api.Alg) api.Alg {
	aggs := []api.Agg{{Name: "count", Star: true}}
	for range m.Intn(3) {
		aggs = append(aggs, api.Agg{Name: pick(m, aggregates()...), E: m.expr(a.Wide)})
	}
	return group(m.exprs(m.Intn(3), a.Wide), aggs[m.Intn(2):], a)
}

func (m maker) sorted(a api.Alg) api.Alg {
	var keys []api.Key
	for _, e := range m.exprs(m.Intn(3), a.Wide) {
		keys = append(keys, api.Key{E: e, Desc: m.is(2)})
	}
	return sorted(keys, a)
}

// plainRun is what the chapter says of algebra that may be.
func plainRun(a api.Alg, db []api.Data) ([]api.Row, api.Errno) {
	var l [2][]api.Row
	for i, part := range a.L {
		got, err := plainRun(part, db)
		if err != api.OK {
			return nil, err
		}
		l[i] = got
	}
	switch a.Op {
	case "scan":
		for _, d := range db {
			if d.Table == a.Table {
				return d.L, api.OK
			}
		}
		return nil, api.ErrNone
	case "one":
		return list(row()), api.OK
	case "filter":
		return rows.Filter(l[0], a.E)
	case "project":
		return rows.Project(l[0], a.Es)
	case "join":
		return rows.Join(a.Kind, l[0], l[1], a.L[0].Wide, a.L[1].Wide, a.E)
	case "group":
		return rows.Group(l[0], a.Es, a.Aggs)
	case "distinct":
		return rows.Distinct(l[0]), api.OK
	case "put":
		return rows.Put(a.Kind, l[0], l[1])
	case "sort":
		return rows.Sort(l[0], a.Keys)
	}
	return rows.Limit(l[0], a.N, a.Off), api.OK
}

func plainTables(a api.Alg) []string {
	var l []string
	if a.Op == "scan" {
		l = append(l, a.Table)
	}
	for _, part := range a.L {
		for _, name := range plainTables(part) {
			if !slices.Contains(l, name) {
				l = append(l, name)
			}
		}
	}
	return l
}

func plainFits(a api.Alg, db []api.Data) bool {
	for _, part := range a.L {
		if !plainFits(part, db) {
			return false
		}
	}
	for _, d := range db {
		if a.Op == "scan" && d.Table == a.Table {
			return !slices.ContainsFunc(d.L, func(r api.Row) bool { return len(r) != a.Wide || value.CheckRow(r) != api.OK })
		}
	}
	return true
}

// P13.1, P13.3: at random, against the plain way.
func TestRunAny(t *testing.T) {
	m := newMaker(1)
	count, ops := map[api.Errno]int{}, map[string]int{}
	for range 10000 {
		a, db := m.alg(2+m.Intn(5), 4), m.data()
		names := plainTables(a)
		if bind.Check(a, tables()) != !slices.Contains(names, "none") {
			t.Fatalf("%v: may not be", a)
		}
		want, err := plainRun(a, db)
		runs(t, a, db, want, err)
		fits(t, a, db, true)
		wants(t, a, names...)
		if slices.ContainsFunc(want, func(r api.Row) bool { return len(r) != a.Wide }) {
			t.Fatalf("%v: got %s", a, told(want))
		}
		count[err]++
		if err == api.OK && len(want) > 0 {
			ops[a.Op+a.Kind]++
		}
	}
	for _, err := range []api.Errno{api.ErrNone, api.ErrZero, api.ErrOver, api.ErrType} {
		if count[err] < 50 {
			t.Errorf("%d: only %d", err, count[err])
		}
	}
	if count[api.OK] < 6000 || len(ops) != 6+5+4 {
		t.Errorf("got %v, %v", count, ops)
	}
	for o, many := range ops {
		if many < 30 {
			t.Errorf("%s: only %d", o, many)
		}
	}
}

// P13.2: at random, of data that fits no more, against the plain way.
func TestFitsAny(t *testing.T) {
	m := newMaker(2)
	good, bad := 0, 0
	for range 10000 {
		a, db := m.alg(2+m.Intn(4), 4), m.data()
		for range 1 + m.Intn(2) {
			d := &db[m.Intn(len(db))]
			switch m.Intn(4) {
			case 0:
				d.Table = pick(m, "t", "u", "v", "nil", "none")
			case 1:
				d.L = slices.Insert(d.L, m.Intn(len(d.L)+1), m.rows(1, m.Intn(4))...)
			case 2:
				d.L = append(d.L, row(pick(m, odd()...)), row(pick(m, even()...)))
			case 3:
				m.Shuffle(len(db), func(i, k int) { db[i], db[k] = db[k], db[i] })
			}
		}
		want := plainFits(a, db)
		fits(t, a, db, want)
		if want {
			good++
		} else {
			bad++
		}
	}
	if good < 3000 || bad < 1500 {
		t.Errorf("only %d and %d", good, bad)
	}
}
