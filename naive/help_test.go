package naive_test

import (
	"fmt"
	"reflect"
	"slices"
	"strings"
	"testing"

	"boscage/api"
	"boscage/bind"
	"boscage/naive"
	"boscage/stmt"
	"boscage/value"
)

// The values, rows, expressions and algebra that tests are made of.
func num(i int64) api.Value               { return api.Value{Kind: api.Int, I: i} }
func text(s string) api.Value             { return api.Value{Kind: api.Text, S: s} }
func blob(s string) api.Value             { return api.Value{Kind: api.Blob, S: s} }
func null() api.Value                     { return api.Value{} }
func no() api.Value                       { return api.Value{Kind: api.Bool} }
func yes() api.Value                      { return api.Value{Kind: api.Bool, I: 1} }
func row(l ...api.Value) api.Row          { return l }
func list(l ...api.Row) []api.Row         { return l }
func lit(v api.Value) api.Expr            { return api.Expr{Op: "lit", V: v} }
func at(place int) api.Expr               { return api.Expr{Op: "at", V: num(int64(place))} }
func op(o string, l ...api.Expr) api.Expr { return api.Expr{Op: o, L: l} }
func call(name string, l ...api.Expr) api.Expr {
	return api.Expr{Op: "call", Name: name, L: l}
}

const most, least = 1<<63 - 1, -1 << 63

// nums are rows of one number each.
func nums(l ...int64) []api.Row {
	var out []api.Row
	for _, n := range l {
		out = append(out, row(num(n)))
	}
	return out
}

// ats are the places from, from + 1, and so on.
func ats(from, many int) []api.Expr {
	var l []api.Expr
	for i := range many {
		l = append(l, at(from+i))
	}
	return l
}

func scan(table string, wide int) api.Alg { return api.Alg{Op: "scan", Table: table, Wide: wide} }
func one() api.Alg                        { return api.Alg{Op: "one"} }
func below(l ...api.Alg) []api.Alg        { return l }
func filter(e api.Expr, a api.Alg) api.Alg {
	return api.Alg{Op: "filter", Wide: a.Wide, E: e, L: below(a)}
}
func project(es []api.Expr, a api.Alg) api.Alg {
	return api.Alg{Op: "project", Wide: len(es), Es: es, L: below(a)}
}
func join(kind string, on api.Expr, a, b api.Alg) api.Alg {
	return api.Alg{Op: "join", Wide: a.Wide + b.Wide, Kind: kind, E: on, L: below(a, b)}
}
func cross(a, b api.Alg) api.Alg { return join("cross", api.Expr{}, a, b) }
func group(es []api.Expr, aggs []api.Agg, a api.Alg) api.Alg {
	return api.Alg{Op: "group", Wide: len(es) + len(aggs), Es: es, Aggs: aggs, L: below(a)}
}
func distinct(a api.Alg) api.Alg { return api.Alg{Op: "distinct", Wide: a.Wide, L: below(a)} }
func put(o string, a, b api.Alg) api.Alg {
	return api.Alg{Op: "put", Wide: a.Wide, Kind: o, L: below(a, b)}
}
func sorted(keys []api.Key, a api.Alg) api.Alg {
	return api.Alg{Op: "sort", Wide: a.Wide, Keys: keys, L: below(a)}
}
func limit(n, off int64, a api.Alg) api.Alg {
	return api.Alg{Op: "limit", Wide: a.Wide, N: n, Off: off, L: below(a)}
}

// kinds, puts and aggregates are all of these.
func kinds() []string      { return []string{"inner", "left", "right", "full", "cross"} }
func puts() []string       { return []string{"union", "unionall", "intersect", "except"} }
func aggregates() []string { return []string{"count", "sum", "min", "max"} }

// failing are nodes that have an error, whatever they work on: the error that each has, over a table that stands in any data.
func failing() map[api.Errno]api.Alg {
	of := func(e api.Expr) api.Alg { return filter(op("isnull", e), one()) }
	return map[api.Errno]api.Alg{
		api.ErrZero: of(op("/", lit(num(1)), lit(num(0)))),
		api.ErrOver: of(op("neg", lit(num(least)))),
		api.ErrType: of(op("+", lit(num(1)), lit(text("a")))),
		api.ErrLike: of(op("like", lit(text("a")), lit(text("\\")))),
		api.ErrArg:  of(call("none")),
		api.ErrNone: scan("none", 0),
	}
}

// tables are columns of the tables of data(), which fit these.
func tables() []api.Cols {
	return []api.Cols{cols("t", "a", "b"), cols("u", "c", "d"), cols("v", "e"), cols("z"), cols("nil", "a", "b", "c")}
}

func cols(table string, names ...string) api.Cols {
	c := api.Cols{Table: table}
	for _, n := range names {
		c.L = append(c.L, api.ColDef{Name: n, Type: api.Int})
	}
	return c
}

// data is some tables' rows: z has no columns, nil no rows, and behind the first t and u stand others.
func data() []api.Data {
	return []api.Data{
		{Table: "t", L: list(row(num(1), num(10)), row(num(2), null()), row(num(3), num(10)), row(num(4), num(20)), row(num(2), null()))},
		{Table: "u", L: list(row(text("x"), num(1)), row(text("y"), num(3)), row(text("z"), num(3)), row(null(), num(9)))},
		{Table: "t", L: nums(7)},
		{Table: "v", L: nums(2, 5)},
		{Table: "z", L: list(nil, nil, nil)},
		{Table: "nil"},
		{Table: "u", L: list(row(api.Value{Kind: 9}))},
	}
}

// queried is the algebra of a query's text.
func queried(s string, db []api.Cols) api.Alg {
	x, place, err := stmt.Parse(s)
	if err != api.OK {
		panic(fmt.Sprintf("%s: %d at %d", s, err, place))
	}
	a, _, err := bind.Query(x.Q, db)
	if err != api.OK {
		panic(fmt.Sprintf("%s: %d", s, err))
	}
	return a
}

// told is rows as a test tells them.
func told(l []api.Row) string {
	var texts []string
	for _, r := range l {
		s, err := value.RowText(r)
		if err != api.OK {
			s = fmt.Sprint([]api.Value(r))
		}
		texts = append(texts, s)
	}
	return strings.Join(texts, " ")
}

// same asks whether two lists are, row by row.
func same(a, b []api.Row) bool { return slices.EqualFunc(a, b, slices.Equal[api.Row]) }

// lists does something with all lists of a thing, those ahead that stand in their elements.
func lists(v reflect.Value, do func(v reflect.Value)) {
	switch v.Kind() {
	case reflect.Struct:
		for i := range v.NumField() {
			lists(v.Field(i), do)
		}
	case reflect.Slice:
		for i := range v.Len() {
			lists(v.Index(i), do)
		}
		do(v)
	}
}

// copied is a thing in memory of its own, with room behind each list.
func copied[T any](x T) T {
	v := reflect.New(reflect.TypeOf(x)).Elem()
	v.Set(reflect.ValueOf(x))
	own(v)
	return v.Interface().(T)
}

func own(v reflect.Value) {
	switch v.Kind() {
	case reflect.Struct:
		for i := range v.NumField() {
			own(v.Field(i))
		}
	case reflect.Slice:
		l := reflect.MakeSlice(v.Type(), v.Len(), v.Len()+2)
		reflect.Copy(l, v)
		v.Set(l)
		for i := range v.Len() {
			own(v.Index(i))
		}
	}
}

// A held thing is one in memory of its own, and how it was.
type held[T any] struct{ now, was T }

func hold[T any](x T) held[T] { return held[T]{copied(x), copied(x)} }

// stays tells whether a held thing is as it was, and nothing stands behind its lists.
func (h held[T]) stays() bool {
	behind := false
	lists(reflect.ValueOf(h.now), func(v reflect.Value) {
		v = v.Slice(v.Len(), v.Cap())
		for i := range v.Len() {
			behind = behind || !v.Index(i).IsZero()
		}
	})
	return !behind && reflect.DeepEqual(h.now, h.was)
}

// spoil writes over all that a thing was made of.
func spoil(x any) {
	lists(reflect.ValueOf(x), func(v reflect.Value) {
		v = v.Slice(0, v.Cap())
		for i := range v.Len() {
			v.Index(i).SetZero()
		}
	})
}

// runs asks what Run answers, twice; that it changes nothing, and that the answer shares no memory with what was handed in, nor one of its lists with another one.
func runs(t *testing.T, a api.Alg, db []api.Data, want []api.Row, err api.Errno) {
	t.Helper()
	handed, over := hold(a), hold(db)
	var got []api.Row
	for range 2 {
		var e api.Errno
		if got, e = naive.Run(handed.now, over.now); e != err || !same(got, want) {
			t.Fatalf("%v: got %s, %d, want %s, %d", a, told(got), e, told(want), err)
		}
		if !handed.stays() || !over.stays() {
			t.Fatalf("%v: what was handed in was changed", a)
		}
	}
	spoil(handed.now)
	spoil(over.now)
	if !same(got, want) {
		t.Fatalf("%v: what is written behind the call into what was handed in changes the answer: %s", a, told(got))
	}
	for i, r := range got { // and behind each row, as far as its memory goes
		for k := range r[:cap(r)] {
			r[:cap(r)][k] = num(int64(i))
		}
	}
	for i, r := range got {
		if slices.ContainsFunc(r, func(v api.Value) bool { return v != num(int64(i)) }) {
			t.Fatalf("%v: the row at %d shares what it is made of", a, i)
		}
	}
}

// runsWhole is runs of algebra that may be over tables(), and of data() that fits it.
func runsWhole(t *testing.T, a api.Alg, want []api.Row, err api.Errno) {
	t.Helper()
	if !bind.Check(a, tables()) {
		t.Fatalf("%v: may not be", a)
	}
	fits(t, a, data(), true)
	runs(t, a, data(), want, err)
}

// fits asks what Fits answers, twice, and that it changes nothing.
func fits(t *testing.T, a api.Alg, db []api.Data, want bool) {
	t.Helper()
	handed, over := hold(a), hold(db)
	for range 2 {
		if got := naive.Fits(handed.now, over.now); got != want {
			t.Fatalf("%v of %v: got %t, want %t", a, db, got, want)
		}
	}
	if !handed.stays() || !over.stays() {
		t.Fatalf("%v: what was handed in was changed", a)
	}
}

// wants asks what Tables answers, twice; that it changes nothing, and that the answer is the caller's own.
func wants(t *testing.T, a api.Alg, want ...string) {
	t.Helper()
	handed := hold(a)
	for range 2 {
		got := naive.Tables(handed.now)
		if !slices.Equal(got, want) {
			t.Fatalf("%v: got %q, want %q", a, got, want)
		}
		for i := range got {
			got[i] = "other"
		}
	}
	if !handed.stays() {
		t.Fatalf("%v: what was handed in was changed", a)
	}
}
