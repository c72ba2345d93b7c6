package rows_test

import (
	"fmt"
	"math/big"
	"math/rand"
	"slices"
	"strings"
	"testing"

	"boscage/api"
	"boscage/eval"
	"boscage/value"
)

// The values, rows and expressions that tests are made of.
func num(i int64) api.Value               { return api.Value{Kind: api.Int, I: i} }
func text(s string) api.Value             { return api.Value{Kind: api.Text, S: s} }
func blob(s string) api.Value             { return api.Value{Kind: api.Blob, S: s} }
func null() api.Value                     { return api.Value{} }
func no() api.Value                       { return api.Value{Kind: api.Bool} }
func yes() api.Value                      { return api.Value{Kind: api.Bool, I: 1} }
func row(l ...api.Value) api.Row          { return l }
func list(l ...api.Row) []api.Row         { return l }
func lit(v api.Value) api.Expr            { return api.Expr{Op: "lit", V: v} }
func at(place int) api.Expr               { return api.Expr{Op: "at", V: num(int64(place))} }
func op(o string, l ...api.Expr) api.Expr { return api.Expr{Op: o, L: l} }
func call(name string, l ...api.Expr) api.Expr {
	return api.Expr{Op: "call", Name: name, L: l}
}

const most, least = 1<<63 - 1, -1 << 63

// wide is a row of so many values, the last ones given.
func wide(many int, last ...api.Value) api.Row {
	return slices.Concat(make(api.Row, many-len(last)), last)
}

// nums are rows of one number each.
func nums(l ...int64) []api.Row {
	var out []api.Row
	for _, n := range l {
		out = append(out, row(num(n)))
	}
	return out
}

// ats are the places from, from + 1, and so on.
func ats(from, many int) []api.Expr {
	var l []api.Expr
	for i := range many {
		l = append(l, at(from+i))
	}
	return l
}

// some are values of all Kinds, at the edges, in their order.
func some() []api.Value {
	l := []api.Value{null(), no(), yes(), num(least), num(-1), num(0), num(1), num(2), num(10), num(most)}
	contents := []string{"", "\x00", "'", "', '", "','", "1", "NULL", "a", "a'", "ab", "b", "x'00'", "\xff"}
	for _, s := range contents {
		l = append(l, text(s))
	}
	for _, s := range contents {
		l = append(l, blob(s))
	}
	return l
}

// tried is an expression that has another error by what an expression's value is: ErrZero of 0, ErrOver of -1, ErrType of what is neither NULL nor an Int; else NULL, or whether the number is above 0.
func tried(e api.Expr) api.Expr { return op("<", op("/", lit(num(least)), e), lit(num(0))) }

// triedNumber is one that has the same errors, and else the number, or NULL.
func triedNumber(e api.Expr) api.Expr {
	return op("+", op("*", op("/", lit(num(least)), e), lit(num(0))), e)
}

// wrongs are expressions that have an error of whatever row: the error that each has.
func wrongs() map[api.Errno]api.Expr {
	return map[api.Errno]api.Expr{
		api.ErrZero: op("/", lit(num(1)), lit(num(0))),
		api.ErrOver: op("neg", lit(num(least))),
		api.ErrType: op("+", lit(num(1)), lit(text("a"))),
		api.ErrLike: op("like", lit(text("a")), lit(text("\\"))),
		api.ErrArg:  call("none"),
	}
}

// same asks whether two lists are, row by row.
func same(a, b []api.Row) bool {
	return slices.EqualFunc(a, b, slices.Equal[api.Row])
}

// shown is a list of rows as a test tells it.
func shown(l []api.Row) string {
	var b strings.Builder
	for _, r := range l[:min(len(l), 30)] {
		s, e := value.RowText(r)
		if e != api.OK {
			s = fmt.Sprintf("(%d values, %d)", len(r), e)
		}
		b.WriteString(s)
	}
	return fmt.Sprintf("%d rows: %s", len(l), strings.ToValidUTF8(b.String(), "?"))
}

// A held list is one whose rows lie one behind the other in one memory, with more behind the last one, as behind the list: whoever writes behind a row, or behind the list, writes over what is seen.
type held struct {
	rows   []api.Row
	values []api.Value
}

func hold(l []api.Row) held {
	values := append(slices.Concat(l...), text("behind"))
	h := held{values: values}
	for _, r := range l {
		h.rows = append(h.rows, values[:len(r)])
		values = values[len(r):]
	}
	h.rows = append(h.rows, row(text("behind")))
	return h
}

func (h held) list() []api.Row { return h.rows[:len(h.rows)-1] }

func (h held) copied() held {
	c := held{values: slices.Clone(h.values)}
	for _, r := range h.rows {
		c.rows = append(c.rows, slices.Clone(r))
	}
	return c
}

func (h held) same(o held) bool { return same(h.rows, o.rows) && slices.Equal(h.values, o.values) }

// spoil writes over all that was handed in.
func (h held) spoil() {
	for i := range h.values {
		h.values[i] = blob("spoilt")
	}
	for i := range h.rows {
		h.rows[i] = nil
	}
}

// asks asks what a call answers of lists, twice; that it changes none of them, and shares nothing with them, nor one row of the answer with another one.
func asks(t *testing.T, want []api.Row, err api.Errno, call func(l ...[]api.Row) ([]api.Row, api.Errno), lists ...[]api.Row) {
	t.Helper()
	var now, before []held
	var handed [][]api.Row
	for _, l := range lists {
		h := hold(l)
		now, before, handed = append(now, h), append(before, h.copied()), append(handed, h.list())
	}
	told := func() string {
		var s string
		for _, l := range lists {
			s += "\n\tof " + shown(l)
		}
		return s
	}
	var got []api.Row
	for range 2 {
		var g api.Errno
		if got, g = call(handed...); g != err || !same(got, want) {
			t.Fatalf("got %s, %d, want %s, %d%s", shown(got), g, shown(want), err, told())
		}
		for i := range now {
			if !now[i].same(before[i]) {
				t.Fatalf("a list was changed%s", told())
			}
		}
	}
	for _, h := range now {
		h.spoil()
	}
	if !same(got, want) {
		t.Fatalf("what is written behind the call into what was handed in changes the answer%s", told())
	}
	ownRows(t, got)
}

// ownRows asks whether no row shares anything with another one of a list.
func ownRows(t *testing.T, l []api.Row) {
	t.Helper()
	long := make([]int, len(l))
	for i, r := range l {
		long[i] = len(r)
	}
	for i := range l {
		mark(l[i], i)
		l[i] = append(l[i], num(int64(i)))
	}
	for i, r := range l {
		if want := make(api.Row, long[i]+1); !slices.Equal(r, mark(want, i)) {
			t.Fatalf("the row at %d shares what it is made of", i)
		}
	}
}

func mark(r api.Row, i int) api.Row {
	for k := range r {
		r[k] = num(int64(i))
	}
	return r
}

// The plain ways to what the chapter says, without the program's own.

func plainTruth(e api.Expr, r api.Row) (bool, api.Errno) {
	v, err := eval.Eval(e, r)
	switch {
	case err != api.OK:
		return false, err
	case v == yes():
		return true, api.OK
	case v == no(), v == null():
		return false, api.OK
	}
	return false, api.ErrType
}

func plainFilter(l []api.Row, e api.Expr) ([]api.Row, api.Errno) {
	var out []api.Row
	for _, r := range l {
		is, err := plainTruth(e, r)
		if err != api.OK {
			return nil, err
		}
		if is {
			out = append(out, r)
		}
	}
	return out, api.OK
}

func plainProject(l []api.Row, es []api.Expr) ([]api.Row, api.Errno) {
	var out []api.Row
	for _, r := range l {
		var values api.Row
		for _, e := range es {
			v, err := eval.Eval(e, r)
			if err != api.OK {
				return nil, err
			}
			values = append(values, v)
		}
		out = append(out, values)
	}
	return out, api.OK
}

// plainJoin first finds out of all pairs which go together.
func plainJoin(kind string, a, b []api.Row, wa, wb int, on api.Expr) ([]api.Row, api.Errno) {
	goes := map[[2]int]int{}
	ofA, ofB := map[int]int{}, map[int]int{}
	for i := range a {
		for k := range b {
			is, err := kind == "cross", api.OK
			if !is {
				is, err = plainTruth(on, slices.Concat(a[i], b[k]))
			}
			if err != api.OK {
				return nil, err
			}
			if is {
				goes[[2]int{i, k}]++
				ofA[i]++
				ofB[k]++
			}
		}
	}
	var out []api.Row
	for i := range a {
		for k := range b {
			if goes[[2]int{i, k}] > 0 {
				out = append(out, slices.Concat(a[i], b[k]))
			}
		}
		if ofA[i] == 0 && (kind == "left" || kind == "full") {
			out = append(out, slices.Concat(a[i], wide(wb)))
		}
	}
	for k := range b {
		if ofB[k] == 0 && (kind == "right" || kind == "full") {
			out = append(out, slices.Concat(wide(wa), b[k]))
		}
	}
	return out, api.OK
}

func has(l []api.Row, r api.Row) bool {
	return slices.ContainsFunc(l, func(x api.Row) bool { return slices.Equal(x, r) })
}

func plainDistinct(l []api.Row) []api.Row {
	var out []api.Row
	for _, r := range l {
		if !has(out, r) {
			out = append(out, r)
		}
	}
	return out
}

func plainPut(o string, a, b []api.Row) []api.Row {
	var out []api.Row
	for _, r := range a {
		if o == "unionall" || o == "union" || has(b, r) == (o == "intersect") {
			out = append(out, r)
		}
	}
	if o == "unionall" || o == "union" {
		out = append(out, b...)
	}
	if o == "unionall" {
		return out
	}
	return plainDistinct(out)
}

// plainSort puts each row behind all that do not stand behind it.
func plainSort(l []api.Row, keys []api.Key) ([]api.Row, api.Errno) {
	var es []api.Expr
	for _, k := range keys {
		es = append(es, k.E)
	}
	if _, err := plainProject(l, es); err != api.OK {
		return nil, err
	}
	ahead := func(a, b api.Row) bool {
		for _, k := range keys {
			x, _ := eval.Eval(k.E, a)
			y, _ := eval.Eval(k.E, b)
			if k.Desc {
				x, y = y, x
			}
			if x != y {
				return value.Compare(x, y) < 0
			}
		}
		return false
	}
	var out []api.Row
	for _, r := range l {
		i := len(out)
		for i > 0 && ahead(r, out[i-1]) {
			i--
		}
		out = slices.Insert(out, i, r)
	}
	return out, api.OK
}

func plainLimit(l []api.Row, n, off int64) []api.Row {
	var out []api.Row
	for _, r := range l {
		if off > 0 {
			off--
			continue
		}
		if n == 0 {
			break
		}
		if n > 0 {
			n--
		}
		out = append(out, r)
	}
	return out
}

// plainGroup asks all rows for all first, then finds each group's rows one by one, and each aggregate's values in these.
func plainGroup(l []api.Row, keys []api.Expr, aggs []api.Agg) ([]api.Row, api.Errno) {
	for _, a := range aggs {
		if !slices.Contains([]string{"count", "sum", "min", "max"}, a.Name) || a.Star && a.Name != "count" {
			return nil, api.ErrArg
		}
	}
	var of, asked []api.Row
	for _, r := range l {
		k, err := plainProject(list(r), keys)
		if err != api.OK {
			return nil, err
		}
		var values api.Row
		for _, a := range aggs {
			v := yes()
			if !a.Star {
				v, err = eval.Eval(a.E, r)
			}
			if err == api.OK && a.Name == "sum" && v.Kind != api.Null && v.Kind != api.Int {
				err = api.ErrType
			}
			if err != api.OK {
				return nil, err
			}
			values = append(values, v)
		}
		of, asked = append(of, k[0]), append(asked, values)
	}
	groups := plainDistinct(of)
	if len(keys) == 0 {
		groups = list(nil)
	}
	var out []api.Row
	for _, g := range groups {
		told := slices.Clone(g)
		for i, a := range aggs {
			var values []api.Value
			for k := range l {
				if slices.Equal(of[k], g) && asked[k][i] != null() {
					values = append(values, asked[k][i])
				}
			}
			v, err := plainAggregate(a.Name, values)
			if err != api.OK {
				return nil, err
			}
			told = append(told, v)
		}
		out = append(out, told)
	}
	return out, api.OK
}

func plainAggregate(name string, l []api.Value) (api.Value, api.Errno) {
	if name == "count" {
		return num(int64(len(l))), api.OK
	}
	if len(l) == 0 {
		return null(), api.OK
	}
	sum, end := new(big.Int), l[0]
	for _, v := range l {
		sum.Add(sum, big.NewInt(v.I))
		if name == "sum" && !sum.IsInt64() {
			return null(), api.ErrOver
		}
		if c := value.Compare(v, end); name == "min" && c < 0 || name == "max" && c > 0 {
			end = v
		}
	}
	if name == "sum" {
		return num(sum.Int64()), api.OK
	}
	return end, api.OK
}

// maker makes rows and expressions at random, but the same ones each time.
type maker struct{ *rand.Rand }

func newMaker(seed int64) maker { return maker{rand.New(rand.NewSource(seed))} }

func pick[T any](m maker, l ...T) T { return l[m.Intn(len(l))] }

// value is mostly a small number, or NULL; seldom one of another Kind.
func (m maker) value() api.Value {
	if m.Intn(40) == 0 {
		return pick(m, text("a"), text("1"), blob("a"), yes(), no(), num(-1))
	}
	return pick(m, null(), num(1), num(2), num(3), num(2), num(1))
}

// rows are up to so many, so wide.
func (m maker) rows(atMost, wide int) []api.Row {
	var l []api.Row
	for range m.Intn(atMost + 1) {
		r := api.Row{}
		for range wide {
			r = append(r, m.value())
		}
		l = append(l, r)
	}
	return l
}

// shuffled are the same rows in another order.
func (m maker) shuffled(l []api.Row) []api.Row {
	out := slices.Clone(l)
	m.Shuffle(len(out), func(i, k int) { out[i], out[k] = out[k], out[i] })
	return out
}

// place is an at within so many, or a lit.
func (m maker) place(wide int) api.Expr {
	if wide == 0 || m.Intn(8) == 0 {
		return lit(m.value())
	}
	return at(m.Intn(wide))
}

// expr is one of a row so wide.
func (m maker) expr(wide int) api.Expr {
	x, y := m.place(wide), m.place(wide)
	return pick(m, x, x, op("+", x, y), op("-", x, y), op("%", x, y), call("coalesce", x, y), call("nullif", x, y), tried(x), triedNumber(op("-", x, y)), m.condition(wide))
}

// condition is mostly a truth.
func (m maker) condition(wide int) api.Expr {
	x, y := m.place(wide), m.place(wide)
	return pick(m, op("=", x, y), op("=", x, y), op("<", x, y), op("<>", x, y), op("isnull", x), op("notnull", x), op("in", x, y, m.place(wide)), op("or", op("=", x, y), op("isnull", y)), op("not", op("=", x, y)), op("between", x, y, m.place(wide)), tried(op("-", x, y)), lit(yes()), lit(no()), lit(null()), x)
}

func (m maker) exprs(atMost, wide int) []api.Expr {
	var l []api.Expr
	for range m.Intn(atMost + 1) {
		l = append(l, m.expr(wide))
	}
	return l
}
