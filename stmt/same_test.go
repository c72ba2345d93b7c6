package stmt_test

import (
	"reflect"
	"testing"

	"boscage/api"
	"boscage/stmt"
)

// sames asks what Same answers, both ways round.
func sames(t *testing.T, a, b api.Stmt, want bool) {
	t.Helper()
	if stmt.Same(a, b) != want || stmt.Same(b, a) != want {
		t.Fatalf("%s and %s: want %v", shown(a), shown(b), want)
	}
}

// full is a statement that has all parts, two in each list down to a depth.
func full() api.Stmt {
	v := reflect.New(reflect.TypeOf(api.Stmt{})).Elem()
	n := int64(0)
	fill(v, 2, &n)
	return v.Interface().(api.Stmt)
}

// fill lays another number into each place.
func fill(v reflect.Value, depth int, n *int64) {
	*n++
	switch v.Kind() {
	case reflect.Struct:
		for i := range v.NumField() {
			fill(v.Field(i), depth, n)
		}
	case reflect.Slice:
		if depth == 0 {
			return
		}
		v.Set(reflect.MakeSlice(v.Type(), 2, 2))
		for i := range 2 {
			fill(v.Index(i), depth-1, n)
		}
	case reflect.String:
		v.SetString(string(rune('a' + *n)))
	case reflect.Bool:
		v.SetBool(*n%2 == 0)
	default:
		v.SetInt(*n)
	}
}

// change makes the change of that number below a thing, and tells how many changes are left.
func change(v reflect.Value, number int) int {
	switch v.Kind() {
	case reflect.Struct:
		for i := range v.NumField() {
			number = change(v.Field(i), number)
		}
		return number
	case reflect.Slice:
		return changeList(v, number)
	}
	if number == 0 {
		switch v.Kind() {
		case reflect.String:
			v.SetString(v.String() + "z")
		case reflect.Bool:
			v.SetBool(!v.Bool())
		default:
			v.SetInt(v.Int() + 1)
		}
	}
	return number - 1
}

// changeList makes a list longer, shorter, another way round, or changes a part of it.
func changeList(v reflect.Value, number int) int {
	many := v.Len()
	switch {
	case number == 0:
		v.Set(reflect.Append(v, reflect.Zero(v.Type().Elem())))
	case many == 0:
	case number == 1:
		v.Set(v.Slice(0, many-1))
	case number == 2:
		v.Set(v.Slice(0, 0))
	case number == 3:
		first, last := reflect.New(v.Type().Elem()).Elem(), reflect.New(v.Type().Elem()).Elem()
		first.Set(v.Index(0))
		last.Set(v.Index(many - 1))
		v.Index(0).Set(last)
		v.Index(many - 1).Set(first)
	default:
		number -= 4
		for i := range many {
			number = change(v.Index(i), number)
		}
		return number
	}
	if many == 0 {
		return number - 1
	}
	return number - 4
}

// P8.1: all parts are asked, those of parts as well.
func TestSame(t *testing.T) {
	whole := full()
	sames(t, whole, copied(whole), true)
	sames(t, api.Stmt{}, api.Stmt{}, true)
	sames(t, whole, api.Stmt{}, false)
	number := 0
	for ; ; number++ {
		other := copied(whole)
		if change(reflect.ValueOf(&other).Elem(), number) >= 0 {
			break
		}
		sames(t, whole, other, false)
	}
	if number < 700 {
		t.Errorf("only %d changes", number)
	}
}

// P8.1: lists without elements are the same, nil or not.
func TestSameLists(t *testing.T) {
	nothing := api.Stmt{
		Q:    api.Query{S: api.Select{Items: []api.Item{}, From: api.From{L: []api.From{}, On: api.Expr{L: []api.Expr{}}}, Group: []api.Expr{}}, L: []api.Query{}, Order: []api.Key{}},
		Cols: []api.ColDef{}, Names: []string{}, Rows: [][]api.Expr{}, Sets: []api.Set{}, Where: api.Expr{L: []api.Expr{}},
	}
	sames(t, nothing, api.Stmt{}, true)
	sames(t, api.Stmt{Rows: [][]api.Expr{{}}}, api.Stmt{Rows: [][]api.Expr{nil}}, true)
	sames(t, api.Stmt{Rows: [][]api.Expr{{}}}, api.Stmt{}, false)
	sames(t, api.Stmt{Rows: [][]api.Expr{{num(1), num(2)}}}, api.Stmt{Rows: [][]api.Expr{{num(1)}, {num(2)}}}, false)
	sames(t, api.Stmt{Names: []string{"a", "b"}}, api.Stmt{Names: []string{"b", "a"}}, false)
	sames(t, api.Stmt{Names: []string{"ab"}}, api.Stmt{Names: []string{"a", "b"}}, false)
	sames(t, api.Stmt{Table: "t"}, api.Stmt{Index: "t"}, false)
	sames(t, api.Stmt{Op: "begin"}, api.Stmt{Op: "BEGIN"}, false)
}

// P8.1: statements that are read are the same just if all parts are.
func TestSameRead(t *testing.T) {
	l := some(1, 400)
	for i, a := range l {
		sames(t, a, copied(a), true)
		for _, b := range l[:i] {
			sames(t, a, b, same(a, b))
		}
	}
}

// R1: of whatever is deep Same ends.
func TestSameDeep(t *testing.T) {
	deep := func(last string) api.Stmt {
		q, f, e := api.Query{Op: last}, api.From{As: last}, api.Expr{Name: last}
		for range 60000 {
			q, f, e = api.Query{L: []api.Query{q}}, api.From{L: []api.From{f}}, api.Expr{L: []api.Expr{e}}
		}
		q.S.From, q.S.Where = f, e
		return api.Stmt{Q: q}
	}
	sames(t, deep("a"), deep("a"), true)
	sames(t, deep("a"), deep("b"), false)
}

// R2: what is handed in stays as it is.
func TestNothingChanges(t *testing.T) {
	a, b := full(), full()
	b.Table = "other"
	first, second := shown(a), shown(b)
	stmt.Same(a, b)
	stmt.Same(a, a)
	if shown(a) != first || shown(b) != second {
		t.Errorf("%s became %s", first, shown(a))
	}
}
