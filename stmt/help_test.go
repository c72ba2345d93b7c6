package stmt_test

import (
	"reflect"
	"strconv"
	"strings"
	"testing"

	"boscage/api"
	"boscage/expr"
	"boscage/stmt"
)

// shown is all of a thing that is not zero, as a test tells it: the same just for the same things, lists without elements among them.
func shown(x any) string {
	var b strings.Builder
	show(&b, reflect.ValueOf(x))
	return b.String()
}

func show(b *strings.Builder, v reflect.Value) {
	switch v.Kind() {
	case reflect.Struct:
		b.WriteByte('{')
		for i := range v.NumField() {
			if f := v.Field(i); !f.IsZero() && !(f.Kind() == reflect.Slice && f.Len() == 0) {
				b.WriteString(v.Type().Field(i).Name + ":")
				show(b, f)
				b.WriteByte(' ')
			}
		}
		b.WriteByte('}')
	case reflect.Slice:
		b.WriteByte('[')
		for i := range v.Len() {
			show(b, v.Index(i))
			b.WriteByte(' ')
		}
		b.WriteByte(']')
	case reflect.String:
		b.WriteString(strconv.Quote(v.String()))
	case reflect.Bool:
		b.WriteString(strconv.FormatBool(v.Bool()))
	default:
		b.WriteString(strconv.FormatInt(v.Int(), 10))
	}
}

func same(a, b api.Stmt) bool { return shown(a) == shown(b) }

// copied is a statement in memory of its own.
func copied(s api.Stmt) api.Stmt {
	v := reflect.New(reflect.TypeOf(s)).Elem()
	v.Set(reflect.ValueOf(s))
	apart(v)
	return v.Interface().(api.Stmt)
}

// apart lays all lists of a thing anew.
func apart(v reflect.Value) {
	switch v.Kind() {
	case reflect.Struct:
		for i := range v.NumField() {
			apart(v.Field(i))
		}
	case reflect.Slice:
		if v.IsNil() {
			return
		}
		l := reflect.MakeSlice(v.Type(), v.Len(), v.Len())
		reflect.Copy(l, v)
		v.Set(l)
		for i := range v.Len() {
			apart(v.Index(i))
		}
	}
}

// The parts that statements are made of.
func num(i int64) api.Expr              { return api.Expr{Op: "lit", V: api.Value{Kind: api.Int, I: i}} }
func text(s string) api.Expr            { return api.Expr{Op: "lit", V: api.Value{Kind: api.Text, S: s}} }
func null() api.Expr                    { return api.Expr{Op: "lit"} }
func col(name string) api.Expr          { return api.Expr{Op: "col", Name: name} }
func colOf(table, name string) api.Expr { return api.Expr{Op: "col", Table: table, Name: name} }
func table(name string) api.From        { return api.From{Table: name, As: name} }
func as(name, other string) api.From    { return api.From{Table: name, As: other} }
func cross(a, b api.From) api.From      { return api.From{Join: "cross", L: []api.From{a, b}} }
func join(kind string, a, b api.From, on api.Expr) api.From {
	return api.From{Join: kind, L: []api.From{a, b}, On: on}
}
func items(l ...api.Expr) []api.Item {
	var out []api.Item
	for _, e := range l {
		out = append(out, api.Item{E: e})
	}
	return out
}
func one(s api.Select) api.Query { return api.Query{Op: "select", S: s, Limit: -1, Offset: -1} }
func put(op string, a, b api.Query) api.Query {
	return api.Query{Op: op, L: []api.Query{a, b}, Limit: -1, Offset: -1}
}
func asked(q api.Query) api.Stmt       { return api.Stmt{Op: "select", Q: q} }
func selected(s api.Select) api.Stmt   { return asked(one(s)) }
func selectedFrom(f api.From) api.Stmt { return selected(api.Select{Items: items(col("a")), From: f}) }

// ex is the expression that a text is.
func ex(s string) api.Expr {
	e, _, err := expr.Parse(s)
	if err != api.OK {
		panic(s)
	}
	return e
}

// read is the statement that a text is, if it is one.
func read(s string) (api.Stmt, bool) {
	got, place, err := stmt.Parse(s)
	return got, place == 0 && err == api.OK
}

// parses asks whether a text is this statement. Of so many that are asked, one that fails is enough.
func parses(t *testing.T, s string, want api.Stmt) {
	t.Helper()
	if got, place, err := stmt.Parse(s); !same(got, want) || place != 0 || err != api.OK {
		t.Fatalf("%.300q: got %s, %d, %d, want %s", s, shown(got), place, err, shown(want))
	}
}

// refuses asks whether a text is none, and where.
func refuses(t *testing.T, s string, place int, want api.Errno) {
	t.Helper()
	if got, at, err := stmt.Parse(s); !same(got, api.Stmt{}) || at != place || err != want {
		t.Fatalf("%.300q: got %s, %d, %d, want %d at %d", s, shown(got), at, err, want, place)
	}
}

// misplaces asks whether a text without its `@` is none, because of the token behind the `@`.
func misplaces(t *testing.T, marked string) {
	t.Helper()
	ahead, behind, is := strings.Cut(marked, "@")
	if !is {
		t.Fatalf("%q: no mark", marked)
	}
	refuses(t, ahead+behind, len(ahead), api.ErrSyntax)
}

// reserved are the words that are no names.
func reserved() []string {
	return strings.Fields("all and as asc begin between blob bool by case commit create cross delete desc distinct drop except exists false from full group having in index inner insert int intersect into is join key left like limit not null offset on or order outer primary right rollback select set table text true union unique update using values where")
}
