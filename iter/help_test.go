package iter_test

import (
	"fmt"
	"math/rand"
	"reflect"
	"slices"
	"strings"
	"testing"

	"boscage/api"
	"boscage/eval"
	"boscage/iter"
	"boscage/value"
)

// The values, rows, expressions and flows that tests are made of.
func num(i int64) api.Value               { return api.Value{Kind: api.Int, I: i} }
func text(s string) api.Value             { return api.Value{Kind: api.Text, S: s} }
func blob(s string) api.Value             { return api.Value{Kind: api.Blob, S: s} }
func null() api.Value                     { return api.Value{} }
func no() api.Value                       { return api.Value{Kind: api.Bool} }
func yes() api.Value                      { return api.Value{Kind: api.Bool, I: 1} }
func row(l ...api.Value) api.Row          { return l }
func list(l ...api.Row) []api.Row         { return l }
func lit(v api.Value) api.Expr            { return api.Expr{Op: "lit", V: v} }
func at(place int) api.Expr               { return api.Expr{Op: "at", V: num(int64(place))} }
func op(o string, l ...api.Expr) api.Expr { return api.Expr{Op: o, L: l} }
func call(name string, l ...api.Expr) api.Expr {
	return api.Expr{Op: "call", Name: name, L: l}
}

func below(l ...api.Flow) []api.Flow         { return l }
func given(l []api.Row) api.Flow             { return api.Flow{Op: "rows", Rows: l} }
func filter(e api.Expr, f api.Flow) api.Flow { return api.Flow{Op: "filter", E: e, L: below(f)} }
func project(f api.Flow, es ...api.Expr) api.Flow {
	return api.Flow{Op: "project", Es: es, L: below(f)}
}
func limit(n, off int64, f api.Flow) api.Flow {
	return api.Flow{Op: "limit", N: n, Off: off, L: below(f)}
}
func distinct(f api.Flow) api.Flow      { return api.Flow{Op: "distinct", L: below(f)} }
func then(l ...api.Flow) api.Flow       { return api.Flow{Op: "then", L: l} }
func above(place int, n int64) api.Expr { return op(">", at(place), lit(num(n))) }

const most, least = 1<<63 - 1, -1 << 63

// nums are rows of one number each.
func nums(l ...int64) []api.Row {
	var out []api.Row
	for _, n := range l {
		out = append(out, row(num(n)))
	}
	return out
}

// upTo are rows of the numbers 1 to n.
func upTo(n int64) []api.Row {
	var out []api.Row
	for i := range n {
		out = append(out, row(num(i+1)))
	}
	return out
}

// ats are the places from 0 on.
func ats(many int) []api.Expr {
	var l []api.Expr
	for i := range many {
		l = append(l, at(i))
	}
	return l
}

// tried is an expression that has another error by what an expression's value is: ErrZero of 0, ErrOver of -1, ErrType of what is neither NULL nor an Int; else NULL, or whether the number is above 0.
func tried(e api.Expr) api.Expr { return op("<", op("/", lit(num(least)), e), lit(num(0))) }

// wrongs are expressions that have an error of whatever row: the error that each has.
func wrongs() map[api.Errno]api.Expr {
	return map[api.Errno]api.Expr{
		api.ErrZero: op("/", lit(num(1)), lit(num(0))),
		api.ErrOver: op("neg", lit(num(least))),
		api.ErrType: op("+", lit(num(1)), lit(text("a"))),
		api.ErrLike: op("like", lit(text("a")), lit(text("\\"))),
		api.ErrArg:  call("none"),
	}
}

// told is rows as a test tells them.
func told(l ...api.Row) string {
	var texts []string
	for _, r := range l[:min(len(l), 30)] {
		s, err := value.RowText(r)
		if err != api.OK {
			s = fmt.Sprintf("(%d values, %d)", len(r), err)
		}
		texts = append(texts, s)
	}
	return fmt.Sprintf("%d: %s", len(l), strings.Join(texts, " "))
}

// same asks whether two lists are, row by row.
func same(a, b []api.Row) bool { return slices.EqualFunc(a, b, slices.Equal[api.Row]) }

// built is a flow's operators, made by their own functions.
func built(f api.Flow) *iter.Iter {
	var l []*iter.Iter
	for _, part := range f.L {
		l = append(l, built(part))
	}
	switch f.Op {
	case "rows":
		return iter.Rows(f.Rows)
	case "filter":
		return iter.Filter(l[0], f.E)
	case "project":
		return iter.Project(l[0], f.Es)
	case "limit":
		return iter.Limit(l[0], f.N, f.Off)
	case "distinct":
		return iter.Distinct(l[0])
	}
	x := iter.Then(l...)
	for i := range l {
		l[i] = nil
	}
	return x
}

// A step is what one Next answers, and how many rows are pulled for it.
type step struct {
	r     api.Row
	is    bool
	err   api.Errno
	pulls int
}

// plainSteps is what a flow answers, one Next after the other, as its chapter says: the last step is the first one without a row.
func plainSteps(f api.Flow) []step {
	var out []step
	switch f.Op {
	case "rows":
		for _, r := range f.Rows {
			out = append(out, step{r, true, api.OK, 1})
		}
		return append(out, step{})
	case "then":
		pulls := 0
		for _, part := range f.L {
			for _, s := range plainSteps(part) {
				s.pulls += pulls
				pulls = 0
				if s.is || s.err != api.OK {
					out = append(out, s)
				} else {
					pulls = s.pulls
				}
				if s.err != api.OK {
					return out
				}
			}
		}
		return append(out, step{pulls: pulls})
	}
	out = plainKept(plainSteps(f.L[0]), plainKeeper(f))
	if f.Op == "limit" && f.N >= 0 && int64(len(out)) > f.N {
		out = append(out[:f.N:f.N], step{})
	}
	return out
}

// plainKept is the steps of which something is kept, each with what is pulled for those ahead of it.
func plainKept(l []step, keep func(r api.Row) (api.Row, bool, api.Errno)) []step {
	var out []step
	pulls := 0
	for _, s := range l {
		s.pulls += pulls
		if s.is {
			s.r, s.is, s.err = keep(s.r)
			if !s.is && s.err == api.OK {
				pulls = s.pulls
				continue
			}
		}
		out = append(out, s)
		if !s.is {
			break
		}
		pulls = 0
	}
	return out
}

// plainKeeper tells what a flow keeps of each row that comes.
func plainKeeper(f api.Flow) func(r api.Row) (api.Row, bool, api.Errno) {
	var seen []api.Row
	off := f.Off
	return func(r api.Row) (api.Row, bool, api.Errno) {
		switch f.Op {
		case "filter":
			v, err := eval.Eval(f.E, r)
			if err == api.OK && v != yes() && v != no() && v != null() {
				err = api.ErrType
			}
			return r, err == api.OK && v == yes(), err
		case "project":
			var values api.Row
			for _, e := range f.Es {
				v, err := eval.Eval(e, r)
				if err != api.OK {
					return nil, false, err
				}
				values = append(values, v)
			}
			return values, true, api.OK
		case "distinct":
			if slices.ContainsFunc(seen, func(s api.Row) bool { return slices.Equal(s, r) }) {
				return nil, false, api.OK
			}
			seen = append(seen, r)
			return r, true, api.OK
		}
		if off > 0 {
			off--
			return nil, false, api.OK
		}
		return r, true, api.OK
	}
}

// plainDrained is what the steps tell in all.
func plainDrained(l []step) ([]api.Row, api.Errno, int) {
	var out []api.Row
	pulls := 0
	for _, s := range l {
		pulls += s.pulls
		if s.err != api.OK {
			return nil, s.err, pulls
		}
		if s.is {
			out = append(out, s.r)
		}
	}
	return out, api.OK, pulls
}

// next asks for one row: whether it is that of a step, with so many pulled in all. What is answered is then written over, as far as its memory goes.
func next(t *testing.T, x *iter.Iter, want step, pulled int) {
	t.Helper()
	r, is, err := x.Next()
	if !slices.Equal(r, want.r) && want.is || len(r) > 0 && !want.is || is != want.is || err != want.err {
		t.Fatalf("got %s, %t, %d, want %s, %t, %d", told(r), is, err, told(want.r), want.is, want.err)
	}
	if got := x.Pulled(); got != pulled {
		t.Fatalf("%s, %t, %d: got %d pulled, want %d", told(r), is, err, got, pulled)
	}
	for i := range r[:cap(r)] {
		r[:cap(r)][i] = blob("spoilt")
	}
}

// closed asks whether there is no row, and ErrArg.
func closed(t *testing.T, x *iter.Iter, pulled int) {
	t.Helper()
	for range 2 {
		next(t, x, step{err: api.ErrArg}, pulled)
	}
}

// goes asks whether an Iter that was just opened answers the first so many steps (all, and on behind the last, if there are more).
func goes(t *testing.T, x *iter.Iter, l []step, many int) int {
	t.Helper()
	pulled := 0
	if got := x.Pulled(); got != 0 {
		t.Fatalf("got %d pulled ahead of the first row", got)
	}
	for i := range many {
		s := step{err: l[len(l)-1].err}
		if i < len(l) {
			s = l[i]
		}
		pulled += s.pulls
		next(t, x, s, pulled)
	}
	return pulled
}

// gives asks whether a flow, made in either way, answers these steps, whatever is written behind that into what it was made of: opened, again in the middle, and again behind a Close; and drained.
func gives(t *testing.T, f api.Flow, want []step) {
	t.Helper()
	for _, make := range []func(f api.Flow) (*iter.Iter, api.Errno){iter.Make, func(f api.Flow) (*iter.Iter, api.Errno) { return built(f), api.OK }} {
		handed := hold(f)
		x, err := make(handed.now)
		if err != api.OK {
			t.Fatalf("got %d", err)
		}
		if !handed.stays() {
			t.Fatalf("what was handed in was changed")
		}
		spoil(reflect.ValueOf(&handed.now).Elem())
		over := copied(handed.now)
		closed(t, x, 0)
		for _, many := range []int{0, len(want) / 2, len(want) + 2, len(want) - 1, 1} {
			x.Open()
			goes(t, x, want, many)
		}
		x.Open()
		pulled := goes(t, x, want, len(want)+1)
		x.Close()
		closed(t, x, pulled)
		for range 2 {
			drains(t, x, want)
		}
		if !reflect.DeepEqual(handed.now, over) {
			t.Fatalf("what was handed in was changed later")
		}
	}
}

// drains asks whether Drain tells the steps in all, and closes; and that the rows share no memory.
func drains(t *testing.T, x *iter.Iter, l []step) {
	t.Helper()
	want, err, pulled := plainDrained(l)
	got, e := iter.Drain(x)
	if !same(got, want) || e != err {
		t.Fatalf("got %s, %d, want %s, %d", told(got...), e, told(want...), err)
	}
	for i, r := range got {
		for k := range r[:cap(r)] {
			r[:cap(r)][k] = num(int64(i))
		}
	}
	for i, r := range got {
		if slices.ContainsFunc(r, func(v api.Value) bool { return v != num(int64(i)) }) {
			t.Fatalf("the row at %d shares what it is made of", i)
		}
	}
	closed(t, x, pulled)
}

// copied is a thing in memory of its own, with room behind each list.
func copied[T any](x T) T {
	v := reflect.New(reflect.TypeOf(x)).Elem()
	v.Set(reflect.ValueOf(x))
	own(v)
	return v.Interface().(T)
}

func own(v reflect.Value) {
	switch v.Kind() {
	case reflect.Struct:
		for i := range v.NumField() {
			own(v.Field(i))
		}
	case reflect.Slice:
		l := reflect.MakeSlice(v.Type(), v.Len(), v.Len()+2)
		reflect.Copy(l, v)
		v.Set(l)
		for i := range v.Len() {
			own(v.Index(i))
		}
	}
}

// A held thing is one in memory of its own, and how it was.
type held[T any] struct{ now, was T }

func hold[T any](x T) held[T] { return held[T]{copied(x), copied(x)} }

// stays tells whether a held thing is as it was, and nothing stands behind its lists.
func (h held[T]) stays() bool {
	return reflect.DeepEqual(h.now, h.was) && !behind(reflect.ValueOf(h.now))
}

// behind tells whether something stands behind a list of a thing.
func behind(v reflect.Value) bool {
	is := false
	switch v.Kind() {
	case reflect.Struct:
		for i := range v.NumField() {
			is = is || behind(v.Field(i))
		}
	case reflect.Slice:
		for i := range v.Len() {
			is = is || behind(v.Index(i))
		}
		for i := v.Len(); i < v.Cap(); i++ {
			is = is || !v.Slice(0, v.Cap()).Index(i).IsZero()
		}
	}
	return is
}

// spoil writes over each number and text in a thing.
func spoil(v reflect.Value) {
	switch v.Kind() {
	case reflect.Struct:
		for i := range v.NumField() {
			spoil(v.Field(i))
		}
	case reflect.Slice:
		for i := range v.Len() {
			spoil(v.Index(i))
		}
	case reflect.String:
		v.SetString("spoilt")
	default:
		v.SetInt(v.Int() + 77)
	}
}

// maker makes flows at random, but the same ones each time.
type maker struct{ *rand.Rand }

func newMaker(seed int64) maker { return maker{rand.New(rand.NewSource(seed))} }

func pick[T any](m maker, l ...T) T { return l[m.Intn(len(l))] }

func (m maker) is(oneIn int) bool { return m.Intn(oneIn) == 0 }

// value is mostly a small number, or NULL; seldom one of another Kind.
func (m maker) value() api.Value {
	if m.is(40) {
		return pick(m, text("a"), text("1"), blob("a"), yes(), no(), num(-1))
	}
	return pick(m, null(), num(1), num(2), num(3), num(2), num(1))
}

func (m maker) rows(atMost, wide int) []api.Row {
	var l []api.Row
	for range m.Intn(atMost + 1) {
		r := api.Row{}
		for range wide {
			r = append(r, m.value())
		}
		l = append(l, r)
	}
	return l
}

func (m maker) place(wide int) api.Expr {
	if wide == 0 || m.is(8) {
		return lit(m.value())
	}
	return at(m.Intn(wide))
}

// expr is one of a row so wide.
func (m maker) expr(wide int) api.Expr {
	x, y := m.place(wide), m.place(wide)
	if m.is(20) {
		return pick(m, tried(op("-", x, y)), m.condition(wide))
	}
	return pick(m, x, x, x, op("+", x, y), op("-", x, y), call("coalesce", x, y), call("nullif", x, y))
}

// condition is mostly a truth.
func (m maker) condition(wide int) api.Expr {
	x, y := m.place(wide), m.place(wide)
	if m.is(20) {
		return pick(m, tried(op("-", x, y)), x)
	}
	return pick(m, op("=", x, y), op("<", x, y), op("<>", x, y), op("isnull", x), op("notnull", x), op("in", x, y, m.place(wide)), op("or", op("=", x, y), op("isnull", y)), lit(yes()), lit(yes()))
}

// flow gives rows so wide.
func (m maker) flow(deep, wide int) api.Flow {
	if deep <= 1 {
		return given(m.rows(6, wide))
	}
	switch m.Intn(6) {
	case 0:
		return filter(m.condition(wide), m.flow(deep-1, wide))
	case 1:
		from := m.Intn(4)
		var es []api.Expr
		for range wide {
			es = append(es, m.expr(from))
		}
		return project(m.flow(deep-1, from), es...)
	case 2:
		return limit(int64(m.Intn(8)-1), int64(m.Intn(5)-1), m.flow(deep-1, wide))
	case 3:
		return distinct(m.flow(deep-1, wide))
	}
	var l []api.Flow
	for range m.Intn(4) {
		l = append(l, m.flow(1+m.Intn(deep-1), wide))
	}
	return then(l...)
}
