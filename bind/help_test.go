package bind_test

import (
	"cmp"
	"reflect"
	"slices"
	"strconv"
	"strings"
	"testing"

	"boscage/api"
	"boscage/bind"
	"boscage/expr"
	"boscage/stmt"
)

// The values, expressions, queries and algebra that tests are made of.
func num(i int64) api.Value               { return api.Value{Kind: api.Int, I: i} }
func text(s string) api.Value             { return api.Value{Kind: api.Text, S: s} }
func blob(s string) api.Value             { return api.Value{Kind: api.Blob, S: s} }
func null() api.Value                     { return api.Value{} }
func yes() api.Value                      { return api.Value{Kind: api.Bool, I: 1} }
func lit(v api.Value) api.Expr            { return api.Expr{Op: "lit", V: v} }
func at(place int) api.Expr               { return api.Expr{Op: "at", V: num(int64(place))} }
func col(name string) api.Expr            { return api.Expr{Op: "col", Name: name} }
func colOf(table, name string) api.Expr   { return api.Expr{Op: "col", Table: table, Name: name} }
func star() api.Expr                      { return api.Expr{Op: "star"} }
func op(o string, l ...api.Expr) api.Expr { return api.Expr{Op: o, L: l} }
func call(name string, l ...api.Expr) api.Expr {
	return api.Expr{Op: "call", Name: name, L: l}
}
func table(name string) api.From     { return api.From{Table: name, As: name} }
func as(name, other string) api.From { return api.From{Table: name, As: other} }
func join(kind string, a, b api.From, on api.Expr) api.From {
	return api.From{Join: kind, L: []api.From{a, b}, On: on}
}
func items(l ...api.Expr) []api.Item {
	var out []api.Item
	for _, e := range l {
		out = append(out, api.Item{E: e})
	}
	return out
}
func one(s api.Select) api.Query { return api.Query{Op: "select", S: s, Limit: -1, Offset: -1} }
func put(o string, a, b api.Query) api.Query {
	return api.Query{Op: o, L: []api.Query{a, b}, Limit: -1, Offset: -1}
}

const most, least = 1<<63 - 1, -1 << 63

// kinds, puts and aggregates are all of these.
func kinds() []string      { return []string{"inner", "left", "right", "full", "cross"} }
func puts() []string       { return []string{"union", "unionall", "intersect", "except"} }
func aggregates() []string { return []string{"count", "sum", "min", "max"} }

// cols are a table's.
func cols(name string, l ...string) api.Cols {
	t := api.Cols{Table: name}
	for i, c := range l {
		t.L = append(t.L, api.ColDef{Name: c, Type: 1 + i%4})
	}
	return t
}

// wide is a table of the columns k0, k1, and so on.
func wide(name string, many int) api.Cols {
	var l []string
	for i := range many {
		l = append(l, "k"+strconv.Itoa(i))
	}
	return cols(name, l...)
}

// tables are some that go with one another, and some odd ones: z has no columns, d has one twice, behind the first t stands another one.
func tables() []api.Cols {
	return []api.Cols{cols("t", "a", "b"), cols("u", "b", "c"), cols("t", "c", "d", "e"), cols("z"), cols("d", "a", "a", "b"), wide("w", 64), wide("x", 65), wide("h", 32), cols("o", "a")}
}

// asked is the query that a text is.
func asked(s string) api.Query {
	x, place, err := stmt.Parse(s)
	if err != api.OK || x.Op != "select" {
		panic(s + ": " + strconv.Itoa(int(err)) + " at " + strconv.Itoa(place))
	}
	return x.Q
}

// ex is the expression that a text is.
func ex(s string) api.Expr {
	e, _, err := expr.Parse(s)
	if err != api.OK {
		panic(s)
	}
	return e
}

// shown is all of a thing that is not zero: the same just for the same things, lists without elements among them.
func shown(x any) string {
	var b strings.Builder
	show(&b, reflect.ValueOf(x))
	return b.String()
}

func show(b *strings.Builder, v reflect.Value) {
	switch v.Kind() {
	case reflect.Struct:
		b.WriteByte('{')
		for i := range v.NumField() {
			if f := v.Field(i); !isZero(f) {
				b.WriteString(v.Type().Field(i).Name + ":")
				show(b, f)
				b.WriteByte(' ')
			}
		}
		b.WriteByte('}')
	case reflect.Slice:
		b.WriteByte('[')
		for i := range v.Len() {
			show(b, v.Index(i))
			b.WriteByte(' ')
		}
		b.WriteByte(']')
	case reflect.String:
		b.WriteString(strconv.Quote(v.String()))
	case reflect.Bool:
		b.WriteString(strconv.FormatBool(v.Bool()))
	default:
		b.WriteString(strconv.FormatInt(v.Int(), 10))
	}
}

// isZero tells whether a thing is zero, a list without elements being so.
func isZero(v reflect.Value) bool {
	switch v.Kind() {
	case reflect.Struct:
		for i := range v.NumField() {
			if !isZero(v.Field(i)) {
				return false
			}
		}
		return true
	case reflect.Slice:
		return v.Len() == 0
	}
	return v.IsZero()
}

// copied is a thing in memory of its own, with room behind each list.
func copied[T any](x T) T {
	v := reflect.New(reflect.TypeOf(x)).Elem()
	v.Set(reflect.ValueOf(x))
	lists(v, func(v reflect.Value) {
		l := reflect.MakeSlice(v.Type(), v.Len(), v.Len()+3)
		reflect.Copy(l, v)
		v.Set(l)
	})
	return v.Interface().(T)
}

// shownWhole is all of a thing that was copied, what stands behind its lists as well.
func shownWhole(x any) string {
	var b strings.Builder
	b.WriteString(shown(x))
	lists(reflect.ValueOf(x), func(v reflect.Value) {
		show(&b, v.Slice(v.Len(), v.Cap()))
	})
	return b.String()
}

// lists does something with all lists of a thing, ahead of those in their elements.
func lists(v reflect.Value, do func(v reflect.Value)) {
	switch v.Kind() {
	case reflect.Struct:
		for i := range v.NumField() {
			lists(v.Field(i), do)
		}
	case reflect.Slice:
		if v.IsNil() {
			return
		}
		do(v)
		for i := range v.Len() {
			lists(v.Index(i), do)
		}
	}
}

// memory is where lists lie, from and to, with what is behind them as well.
func memory(x any) [][2]uintptr {
	var l [][2]uintptr
	lists(reflect.ValueOf(x), func(v reflect.Value) {
		if v.Cap() > 0 {
			l = append(l, [2]uintptr{v.Pointer(), v.Pointer() + uintptr(v.Cap())*v.Type().Elem().Size()})
		}
	})
	return l
}

// apart asks whether no list of an answer shares memory with another one, or with one that was handed in.
func apart(t *testing.T, answer [][2]uintptr, handed [][2]uintptr) {
	t.Helper()
	byPlace := func(a, b [2]uintptr) int { return cmp.Compare(a[0], b[0]) }
	slices.SortFunc(answer, byPlace)
	for i := 1; i < len(answer); i++ {
		if answer[i][0] < answer[i-1][1] {
			t.Fatalf("two lists of an answer share memory")
		}
	}
	for _, h := range handed {
		for _, a := range answer {
			if a[0] < h[1] && h[0] < a[1] {
				t.Fatalf("a list of an answer shares memory with one that was handed in")
			}
		}
	}
}

// queries asks what Query answers, twice: zero with an error, else what Check takes; that it changes nothing that it is handed, and shares nothing with it.
func queries(t *testing.T, q api.Query, db []api.Cols) (api.Alg, []string, api.Errno) {
	t.Helper()
	q, db = copied(q), copied(db)
	before := shownWhole(q) + shownWhole(db)
	a, names, err := bind.Query(q, db)
	again, other, e := bind.Query(q, db)
	if shown(a) != shown(again) || !slices.Equal(names, other) || err != e {
		t.Fatalf("%s: got %s, %q, %d, and then %s, %q, %d", before, shown(a), names, err, shown(again), other, e)
	}
	if shownWhole(q)+shownWhole(db) != before {
		t.Fatalf("%s: was changed", before)
	}
	if err != api.OK && (shown(a) != "{}" || len(names) > 0) {
		t.Fatalf("%s: got %s, %q, %d", before, shown(a), names, err)
	}
	if err == api.OK && (!bind.Check(a, db) || len(names) != a.Wide) {
		t.Fatalf("%s: got %s, %q, which may not be", before, shown(a), names)
	}
	apart(t, slices.Concat(memory(a), memory(names)), slices.Concat(memory(q), memory(db), memory(again), memory(other)))
	return a, names, err
}

// binds asks whether a text's query is this algebra, with these names.
func binds(t *testing.T, s, want string, names ...string) {
	t.Helper()
	a, got, err := queries(t, asked(s), tables())
	if told(a) != want || err != api.OK || !slices.Equal(got, names) {
		t.Errorf("%q: got %s, %q, %d, want %s, %q", s, told(a), got, err, want, names)
	}
}

// refuses asks whether a text's query has this error.
func refuses(t *testing.T, want api.Errno, l ...string) {
	t.Helper()
	for _, s := range l {
		if a, _, err := queries(t, asked(s), tables()); err != want {
			t.Errorf("%q: got %s, %d, want %d", s, told(a), err, want)
		}
	}
}

// told is algebra, in short: of each node its Op, Kind, Table, Wide, and what else it has; behind ` of ` what it works on.
func told(a api.Alg) string {
	var l []string
	if a.E.Op != "" {
		l = append(l, bound(a.E))
	}
	for _, e := range a.Es {
		l = append(l, bound(e))
	}
	for _, g := range a.Aggs {
		if g.Star {
			l = append(l, g.Name+"(*)"+bound(g.E))
		} else {
			l = append(l, g.Name+"("+bound(g.E)+")")
		}
	}
	for _, k := range a.Keys {
		l = append(l, bound(k.E)+map[bool]string{true: " desc"}[k.Desc])
	}
	if a.Op == "limit" || a.N != 0 || a.Off != 0 {
		l = append(l, strconv.FormatInt(a.N, 10)+" "+strconv.FormatInt(a.Off, 10))
	}
	s := strings.Join(strings.Fields(a.Op+" "+a.Kind+" "+a.Table), " ") + " " + strconv.Itoa(a.Wide)
	if len(l) > 0 {
		s += " [" + strings.Join(l, "; ") + "]"
	}
	switch len(a.L) {
	case 0:
		return s
	case 1:
		return s + " of " + told(a.L[0])
	}
	var parts []string
	for _, x := range a.L {
		parts = append(parts, told(x))
	}
	return s + " of (" + strings.Join(parts, "), (") + ")"
}

// bound is a bound expression, with p0 at the place 0, and so on.
func bound(e api.Expr) string {
	if e.Op == "" {
		return ""
	}
	s, err := expr.Text(named(e))
	if err != api.OK {
		return "?" + shown(e)
	}
	return s
}

func named(e api.Expr) api.Expr {
	if e.Op == "at" && e.V.I >= 0 {
		return col("p" + strconv.FormatInt(e.V.I, 10))
	}
	e.L = slices.Clone(e.L)
	for i := range e.L {
		e.L[i] = named(e.L[i])
	}
	return e
}
