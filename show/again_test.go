package show_test

import (
	"fmt"
	"math"
	"math/rand"
	"reflect"
	"strings"
	"testing"

	"boscage/api"
	"boscage/expr"
	"boscage/show"
)

// maker makes statements that may be.
type maker struct {
	*rand.Rand
}

// some are statements at random, but the same ones each time.
func some(seed int64, many int) []api.Stmt {
	m := maker{rand.New(rand.NewSource(seed))}
	var l []api.Stmt
	for range many {
		l = append(l, m.stmt())
	}
	return l
}

// oneOf is one of these.
func oneOf[T any](m maker, l ...T) T { return l[m.Intn(len(l))] }

// listOf are so many at the least, and a few more.
func listOf[T any](m maker, least int, one func() T) []T {
	var l []T
	for range least + m.Intn(3) {
		l = append(l, one())
	}
	return l
}

func (m maker) is() bool      { return m.Intn(2) == 0 }
func (m maker) name() string  { return oneOf(m, "a", "b", "t", "u", "n1", "_x", "count", "view") }
func (m maker) number() int64 { return oneOf[int64](m, 0, 1, 12, math.MaxInt64) }

func (m maker) stmt() api.Stmt {
	name, other := m.name(), m.name()
	switch m.Intn(12) {
	case 0:
		return api.Stmt{Op: "insert", Table: name, Names: listOf(m, 0, m.name), Rows: listOf(m, 1, func() []api.Expr { return listOf(m, 1, m.expr) })}
	case 1:
		sets := listOf(m, 1, func() api.Set { return api.Set{Name: m.name(), E: m.expr()} })
		return api.Stmt{Op: "update", Table: name, Sets: sets, Where: m.maybe()}
	case 2:
		return api.Stmt{Op: "delete", Table: name, Where: m.maybe()}
	case 3:
		cols := listOf(m, 1, func() api.ColDef {
			return api.ColDef{Name: m.name(), Type: 1 + m.Intn(4), NotNull: m.is(), Unique: m.is(), Primary: m.is()}
		})
		return api.Stmt{Op: "create", Table: name, Cols: cols}
	case 4:
		return api.Stmt{Op: "index", Index: name, Table: other, Names: listOf(m, 1, m.name), Unique: m.is()}
	case 5:
		return oneOf(m, api.Stmt{Op: "drop", Table: name}, api.Stmt{Op: "unindex", Index: name})
	case 6:
		return api.Stmt{Op: oneOf(m, "begin", "commit", "rollback")}
	}
	q := m.query(m.Intn(3))
	q.Order = listOf(m, 0, func() api.Key { return api.Key{E: m.expr(), Desc: m.is()} })
	if m.is() {
		q.Limit = m.number()
		if m.is() {
			q.Offset = m.number()
		}
	}
	return asked(q)
}

func (m maker) expr() api.Expr {
	return ex(oneOf(m, "a", "t.a", "1", "-5", "- 9223372036854775808", "'x'", "'it''s; -- '", "x'3b'", "null", "true", "a + 1 * b", "-(a)", "not a", "a is not null", "a = b", "a not in (1, b, 'c')", "a between 1 and 2 or b", "a like '%'", "count(*)", "f()", "sum(a) || b", "(a or b) and c", "coalesce(t.a, u.b, (1))"))
}

func (m maker) maybe() api.Expr {
	if m.is() {
		return api.Expr{}
	}
	return m.expr()
}

func (m maker) query(more int) api.Query {
	if more > 0 {
		return put(oneOf(m, "union", "unionall", "intersect", "except"), m.query(more-1), m.query(0))
	}
	s := api.Select{Distinct: m.is(), Items: listOf(m, 1, m.item), Where: m.maybe(), Group: listOf(m, 0, m.expr), Having: m.maybe()}
	if m.Intn(5) > 0 {
		s.From = m.from(3)
	}
	return one(s)
}

func (m maker) item() api.Item {
	return oneOf(m, api.Item{Star: true}, api.Item{Star: true, Table: m.name()}, api.Item{E: m.expr(), As: m.name()}, api.Item{E: m.expr()})
}

func (m maker) from(depth int) api.From {
	if depth == 0 || m.Intn(3) == 0 {
		name := m.name()
		return as(name, oneOf(m, name, m.name()))
	}
	a, b := m.from(depth-1), m.from(depth-1)
	if kind := oneOf(m, "cross", "inner", "left", "right", "full"); kind != "cross" {
		return join(kind, a, b, m.expr())
	}
	return cross(a, b)
}

// The plain writer lays texts together as the chapter's lines stand.

func plain(s api.Stmt) string {
	switch s.Op {
	case "select":
		return plainQuery(s.Q)
	case "insert":
		names := ""
		if len(s.Names) > 0 {
			names = "(" + strings.Join(s.Names, ", ") + ") "
		}
		return fmt.Sprintf("INSERT INTO %s %sVALUES %s", s.Table, names, commas(s.Rows, func(row []api.Expr) string { return "(" + commas(row, plainExpr) + ")" }))
	case "update":
		return fmt.Sprintf("UPDATE %s SET %s%s", s.Table, commas(s.Sets, func(x api.Set) string { return x.Name + " = " + plainExpr(x.E) }), behind(" WHERE ", plainExpr(s.Where)))
	case "delete":
		return fmt.Sprintf("DELETE FROM %s%s", s.Table, behind(" WHERE ", plainExpr(s.Where)))
	case "create":
		return fmt.Sprintf("CREATE TABLE %s (%s)", s.Table, commas(s.Cols, plainColumn))
	case "index":
		return fmt.Sprintf("CREATE %sINDEX %s ON %s (%s)", when(s.Unique, "UNIQUE "), s.Index, s.Table, strings.Join(s.Names, ", "))
	}
	return map[string]string{"drop": "DROP TABLE " + s.Table, "unindex": "DROP INDEX " + s.Index, "begin": "BEGIN", "commit": "COMMIT", "rollback": "ROLLBACK"}[s.Op]
}

func plainColumn(c api.ColDef) string {
	word := map[int]string{api.Int: "INT", api.Text: "TEXT", api.Bool: "BOOL", api.Blob: "BLOB"}[c.Type]
	return c.Name + " " + word + when(c.NotNull, " NOT NULL") + when(c.Unique, " UNIQUE") + when(c.Primary, " PRIMARY KEY")
}

func plainQuery(q api.Query) string {
	var text string
	if q.Op == "select" {
		x := q.S
		text = "SELECT " + when(x.Distinct, "DISTINCT ") + commas(x.Items, plainItem) + behind(" FROM ", plainFrom(x.From)) +
			behind(" WHERE ", plainExpr(x.Where)) + behind(" GROUP BY ", commas(x.Group, plainExpr)) + behind(" HAVING ", plainExpr(x.Having))
	} else {
		word := map[string]string{"union": "UNION", "unionall": "UNION ALL", "intersect": "INTERSECT", "except": "EXCEPT"}[q.Op]
		text = plainQuery(q.L[0]) + " " + word + " " + plainQuery(q.L[1])
	}
	order := commas(q.Order, func(k api.Key) string { return plainExpr(k.E) + when(k.Desc, " DESC") })
	return text + behind(" ORDER BY ", order) + when(q.Limit >= 0, fmt.Sprint(" LIMIT ", q.Limit)) + when(q.Offset >= 0, fmt.Sprint(" OFFSET ", q.Offset))
}

func plainItem(i api.Item) string {
	if i.Star {
		return strings.TrimPrefix(i.Table+".*", ".")
	}
	return plainExpr(i.E) + behind(" AS ", i.As)
}

func plainFrom(f api.From) string {
	if len(f.L) == 0 {
		return f.Table + when(f.As != f.Table, " AS "+f.As)
	}
	word := map[string]string{"cross": "CROSS JOIN", "inner": "JOIN", "left": "LEFT JOIN", "right": "RIGHT JOIN", "full": "FULL JOIN"}[f.Join]
	second := plainFrom(f.L[1])
	if len(f.L[1].L) > 0 {
		second = "(" + second + ")"
	}
	return plainFrom(f.L[0]) + " " + word + " " + second + behind(" ON ", plainExpr(f.On))
}

func plainExpr(e api.Expr) string {
	text, _ := expr.Text(e)
	return text
}

func commas[T any](l []T, one func(T) string) string {
	var texts []string
	for _, x := range l {
		texts = append(texts, one(x))
	}
	return strings.Join(texts, ", ")
}

// behind is a text behind its words, or nothing, if it is empty.
func behind(words, text string) string { return when(text != "", words+text) }

func when(is bool, text string) string {
	if is {
		return text
	}
	return ""
}

// P9.1 to P9.4: statements at random, written and read again.
func TestSome(t *testing.T) {
	for _, s := range some(2, 8000) {
		writes(t, s, plain(s))
	}
}

// P9.4: what is written once is written so ever again.
func TestSomeAgain(t *testing.T) {
	for _, s := range some(3, 3000) {
		text := show.Text(s)
		if len(text) > api.MaxText {
			continue
		}
		writes(t, read(t, strings.ReplaceAll(text, " JOIN ", "\n join --\n")+" ;"), text)
	}
}

// wild lays anything into a thing, lists of up to three elements down to a depth.
func wild(r *rand.Rand, v reflect.Value, depth int) {
	switch v.Kind() {
	case reflect.Struct:
		for i := range v.NumField() {
			wild(r, v.Field(i), depth)
		}
	case reflect.Slice:
		many := r.Intn(4)
		if depth == 0 || many == 0 {
			return
		}
		v.Set(reflect.MakeSlice(v.Type(), many, many))
		for i := range many {
			wild(r, v.Index(i), depth-1)
		}
	case reflect.String:
		v.SetString(oneOf(maker{r}, "", "a", "T", "select", "insert", "update", "delete", "create", "drop", "index", "unindex", "begin", "union", "unionall", "cross", "inner", "left", "lit", "col", "call", "star", "and", "in", "'", "\x00\xff", "BEGIN"))
	case reflect.Bool:
		v.SetBool(r.Intn(2) == 0)
	default:
		v.SetInt(oneOf[int64](maker{r}, math.MinInt64, -1, 0, 1, 2, 3, 4, 5, math.MaxInt64))
	}
}

// R1, R2: of any statement it ends, and changes nothing; of the same one it tells the same.
func TestWild(t *testing.T) {
	r := rand.New(rand.NewSource(4))
	for range 2000 {
		var s api.Stmt
		wild(r, reflect.ValueOf(&s).Elem(), 3)
		before := shown(s)
		text, query, from := show.Text(s), show.Query(s.Q), show.From(s.Q.S.From)
		if text != show.Text(s) || query != show.Query(s.Q) || from != show.From(s.Q.S.From) || shown(s) != before {
			t.Fatalf("%s: not the same again, or changed", before)
		}
	}
	for _, s := range []api.Stmt{
		{}, {Op: "nothing"}, {Op: "SELECT"}, {Op: "select"}, {Op: "select", Q: api.Query{Op: "union"}}, {Op: "select", Q: api.Query{Op: "except", L: make([]api.Query, 1)}}, {Op: "insert"}, {Op: "insert", Rows: make([][]api.Expr, 2)}, {Op: "update"}, {Op: "delete"}, {Op: "create"}, {Op: "create", Cols: make([]api.ColDef, 2)}, {Op: "index"},
		selectedFrom(api.From{Join: "cross"}), selectedFrom(api.From{Join: "inner", L: make([]api.From, 1)}), selectedFrom(api.From{Join: "left", L: make([]api.From, 3)}), selectedFrom(api.From{L: make([]api.From, 2)}),
	} {
		show.Text(s)
		show.Query(s.Q)
		show.From(s.Q.S.From)
	}
}

// R1: what is as deep as may be.
func TestDeep(t *testing.T) {
	const deep = 1 << 16
	e, left, right := col("a"), table("t"), table("t")
	first := one(api.Select{Items: items(e)})
	ahead, last := first, first
	for range deep {
		e = api.Expr{Op: "not", L: []api.Expr{e}}
		left, right = cross(left, table("u")), cross(table("u"), right)
		ahead, last = put("union", ahead, first), put("union", first, last)
	}
	for _, f := range []api.From{left, right} {
		if !strings.Contains(show.From(f), "t CROSS JOIN u") && !strings.Contains(show.From(f), "u CROSS JOIN t") {
			t.Error("no FROM")
		}
		show.Text(selectedFrom(f))
	}
	for _, q := range []api.Query{ahead, last} {
		if got := show.Query(q); got != "SELECT a"+strings.Repeat(" UNION SELECT a", deep) {
			t.Errorf("%d bytes", len(got))
		}
	}
	show.Text(asked(one(api.Select{Items: items(e), Where: e})))
}
