package stmt_test

import (
	"math"
	"math/rand"
	"reflect"
	"slices"
	"strings"
	"testing"

	"boscage/api"
	"boscage/expr"
	"boscage/stmt"
	"boscage/token"
)

// maker makes statements that may be.
type maker struct {
	*rand.Rand
}

// some are statements at random, but the same ones each time.
func some(seed int64, many int) []api.Stmt {
	m := maker{rand.New(rand.NewSource(seed))}
	var l []api.Stmt
	for range many {
		l = append(l, m.stmt())
	}
	return l
}

// oneOf is one of these.
func oneOf[T any](m maker, l ...T) T { return l[m.Intn(len(l))] }

// listOf are so many at the least, and a few more.
func listOf[T any](m maker, least int, one func() T) []T {
	var l []T
	for range least + m.Intn(3) {
		l = append(l, one())
	}
	return l
}

func (m maker) stmt() api.Stmt {
	s := api.Stmt{Op: oneOf(m, "select", "select", "select", "select", "insert", "update", "delete", "create", "index", "drop", "unindex", "begin", "commit", "rollback")}
	switch s.Op {
	case "select":
		s.Q = m.query(m.Intn(3))
		s.Q.Order = listOf(m, 0, func() api.Key { return api.Key{E: m.expr(), Desc: m.Intn(2) == 0} })
		if m.Intn(2) == 0 {
			s.Q.Limit = m.number()
			if m.Intn(2) == 0 {
				s.Q.Offset = m.number()
			}
		}
		return s
	case "begin", "commit", "rollback":
		return s
	case "unindex":
		s.Index = m.name()
		return s
	}
	s.Table = m.name()
	switch s.Op {
	case "insert":
		s.Names = listOf(m, 0, m.name)
		s.Rows = listOf(m, 1, func() []api.Expr { return listOf(m, 1, m.expr) })
	case "update":
		s.Sets = listOf(m, 1, func() api.Set { return api.Set{Name: m.name(), E: m.expr()} })
		s.Where = m.maybe()
	case "delete":
		s.Where = m.maybe()
	case "create":
		s.Cols = listOf(m, 1, func() api.ColDef {
			return api.ColDef{Name: m.name(), Type: 1 + m.Intn(4), NotNull: m.Intn(2) == 0, Unique: m.Intn(2) == 0, Primary: m.Intn(2) == 0}
		})
	case "index":
		s.Index, s.Names, s.Unique = m.name(), listOf(m, 1, m.name), m.Intn(2) == 0
	}
	return s
}

func (m maker) name() string { return oneOf(m, "a", "b", "t", "u", "n1", "_x", "count", "view") }

func (m maker) number() int64 { return oneOf[int64](m, 0, 1, 12, math.MaxInt64) }

func (m maker) expr() api.Expr {
	return ex(oneOf(m, "a", "t.a", "1", "-5", "- 9223372036854775808", "'x'", "'it''s; -- '", "x'3b'", "null", "true", "a + 1 * b", "-(a)", "not a", "a is not null", "a = b", "a not in (1, b, 'c')", "a between 1 and 2 or b", "a like '%'", "count(*)", "f()", "sum(a) || b", "(a or b) and c", "coalesce(t.a, u.b, (1))"))
}

func (m maker) maybe() api.Expr {
	if m.Intn(2) == 0 {
		return api.Expr{}
	}
	return m.expr()
}

func (m maker) query(more int) api.Query {
	if more > 0 {
		return put(oneOf(m, "union", "unionall", "intersect", "except"), m.query(more-1), m.query(0))
	}
	s := api.Select{Distinct: m.Intn(2) == 0, Items: listOf(m, 1, m.item), Where: m.maybe(), Having: m.maybe()}
	if m.Intn(5) > 0 {
		s.From = m.from(3)
	}
	s.Group = listOf(m, 0, m.expr)
	return one(s)
}

func (m maker) item() api.Item {
	switch m.Intn(5) {
	case 0:
		return api.Item{Star: true}
	case 1:
		return api.Item{Star: true, Table: m.name()}
	case 2:
		return api.Item{E: m.expr(), As: m.name()}
	}
	return api.Item{E: m.expr()}
}

func (m maker) from(depth int) api.From {
	if depth == 0 || m.Intn(3) == 0 {
		name := m.name()
		return as(name, oneOf(m, name, m.name()))
	}
	a, b := m.from(depth-1), m.from(depth-1)
	if kind := oneOf(m, "cross", "inner", "left", "right", "full"); kind != "cross" {
		return join(kind, a, b, m.expr())
	}
	return cross(a, b)
}

// speller writes a statement in one of the ways that the grammar has for it, with a blank between any two tokens but those of an expression.
type speller struct {
	maker
	strings.Builder
}

func (s *speller) say(words ...string) {
	for _, w := range words {
		s.WriteString(w + " ")
	}
}

// may says a word now and then.
func (s *speller) may(word string) {
	if s.Intn(2) == 0 {
		s.say(word)
	}
}

func (s *speller) expr(e api.Expr) {
	text, _ := expr.Text(e)
	s.say(text)
}

func (s *speller) clause(word string, e api.Expr) {
	if e.Op != "" {
		s.say(word)
		s.expr(e)
	}
}

func (s *speller) as(name string) {
	if name != "" {
		s.may("as")
		s.say(name)
	}
}

// spell writes one of a list by one, with `,` between.
func spell[T any](s *speller, l []T, one func(T)) {
	for i, x := range l {
		if i > 0 {
			s.say(",")
		}
		one(x)
	}
}

func (s *speller) names(l []string) {
	s.say("(")
	spell(s, l, func(n string) { s.say(n) })
	s.say(")")
}

func (s *speller) stmt(x api.Stmt) {
	switch x.Op {
	case "select":
		s.query(x.Q)
	case "insert":
		s.say("insert into", x.Table)
		if len(x.Names) > 0 {
			s.names(x.Names)
		}
		s.say("values")
		spell(s, x.Rows, func(row []api.Expr) {
			s.say("(")
			spell(s, row, s.expr)
			s.say(")")
		})
	case "update":
		s.say("update", x.Table, "set")
		spell(s, x.Sets, func(set api.Set) {
			s.say(set.Name, "=")
			s.expr(set.E)
		})
		s.clause("where", x.Where)
	case "delete":
		s.say("delete from", x.Table)
		s.clause("where", x.Where)
	case "create":
		s.say("create table", x.Table, "(")
		spell(s, x.Cols, s.column)
		s.say(")")
	case "index":
		s.say("create")
		if x.Unique {
			s.say("unique")
		}
		s.say("index", x.Index, "on", x.Table)
		s.names(x.Names)
	case "drop":
		s.say("drop table", x.Table)
	case "unindex":
		s.say("drop index", x.Index)
	default:
		s.say(x.Op)
	}
}

func (s *speller) column(c api.ColDef) {
	s.say(c.Name, [...]string{api.Bool: "bool", api.Int: "int", api.Text: "text", api.Blob: "blob"}[c.Type])
	var l []string
	if c.NotNull {
		l = append(l, "not null")
	}
	if c.Unique {
		l = append(l, "unique")
	}
	if c.Primary {
		l = append(l, "primary key")
	}
	s.Shuffle(len(l), func(i, j int) { l[i], l[j] = l[j], l[i] })
	s.say(l...)
}

func (s *speller) query(q api.Query) {
	if q.Op == "select" {
		s.selected(q.S)
	} else {
		s.query(q.L[0])
		s.say(strings.Replace(q.Op, "all", " all", 1))
		s.query(q.L[1])
	}
	if len(q.Order) > 0 {
		s.say("order by")
		spell(s, q.Order, func(k api.Key) {
			s.expr(k.E)
			if k.Desc {
				s.say("desc")
			} else {
				s.may("asc")
			}
		})
	}
	if q.Limit >= 0 {
		s.say("limit")
		s.expr(num(q.Limit))
	}
	if q.Offset >= 0 {
		s.say("offset")
		s.expr(num(q.Offset))
	}
}

func (s *speller) selected(x api.Select) {
	s.say("select")
	if x.Distinct {
		s.say("distinct")
	} else {
		s.may("all")
	}
	spell(s, x.Items, func(i api.Item) {
		switch {
		case i.Table != "":
			s.say(i.Table, ".", "*")
		case i.Star:
			s.say("*")
		default:
			s.expr(i.E)
			s.as(i.As)
		}
	})
	if x.From.Table+x.From.Join != "" {
		s.say("from")
		s.from(x.From, 2)
	}
	s.clause("where", x.Where)
	if len(x.Group) > 0 {
		s.say("group by")
		spell(s, x.Group, s.expr)
	}
	s.clause("having", x.Having)
}

// from writes tables where several may stand with `,` between (2), joined ones (1), or one (0).
func (s *speller) from(f api.From, of int) {
	comma := of == 2 && f.Join == "cross" && s.Intn(2) == 0
	switch {
	case f.Join != "" && of == 0 || s.Intn(5) == 0:
		s.say("(")
		s.from(f, 2)
		s.say(")")
	case f.Join == "":
		s.say(f.Table)
		if f.As != f.Table || s.Intn(3) == 0 {
			s.as(f.As)
		}
	case comma:
		s.from(f.L[0], 2)
		s.say(",")
		s.from(f.L[1], 1)
	default:
		s.from(f.L[0], 1)
		switch f.Join {
		case "cross":
			s.say("cross")
		case "inner":
			s.may("inner")
		default:
			s.say(f.Join)
			s.may("outer")
		}
		s.say("join")
		s.from(f.L[1], 0)
		s.clause("on", f.On)
	}
}

// spelled are statements, each with a text of it, long ones left out.
func spelled(seed int64, many int) (texts []string, l []api.Stmt) {
	s := speller{maker: maker{rand.New(rand.NewSource(seed))}}
	for _, x := range some(seed+1, many) {
		s.Reset()
		s.stmt(x)
		if s.Len() <= 3000 {
			texts, l = append(texts, s.String()), append(l, x)
		}
	}
	return texts, l
}

// P8.1: however a statement is written, it is read.
func TestSpelled(t *testing.T) {
	texts, l := spelled(2, 20000)
	for i, s := range texts {
		parses(t, s, l[i])
		if got, _ := read(s); !stmt.Same(got, l[i]) {
			t.Fatalf("%q: not the same", s)
		}
	}
	if len(l) < 19000 {
		t.Errorf("only %d", len(l))
	}
}

// respelled is a text with other blanks between its tokens, and other letters in its words.
func respelled(t *testing.T, r *rand.Rand, s string) string {
	t.Helper()
	l, _, err := token.Cut(s)
	if err != api.OK {
		t.Fatalf("%q: no tokens", s)
	}
	blanks := []string{" ", "\n", "\t", "\r ", " --;\n", " -- select (\n", "  "}
	var b strings.Builder
	b.WriteString(oneOf(maker{r}, blanks...))
	for i, one := range l[:len(l)-1] {
		piece := s[one.At:l[i+1].At]
		switch {
		case one.Kind != api.TWord:
		case r.Intn(2) == 0:
			piece = strings.ToUpper(piece)
		default:
			piece = strings.ToLower(piece)
		}
		b.WriteString(strings.TrimRight(piece, " "))
		next := l[i+1]
		if one.Kind == api.TSign && strings.Contains("(),.;*+", one.S) && one.S != next.S && r.Intn(2) == 0 {
			continue
		}
		b.WriteString(oneOf(maker{r}, blanks...))
	}
	return b.String()
}

// P8.3: blanks between, great or small letters, and a `;` behind change nothing.
func TestSpelledAgain(t *testing.T) {
	r := rand.New(rand.NewSource(4))
	texts, l := spelled(5, 5000)
	for i, s := range texts {
		again := respelled(t, r, s)
		if len(again)+3 > api.MaxText {
			continue
		}
		parses(t, again, l[i])
		parses(t, again+";", l[i])
		parses(t, s+" ; ", l[i])
		misplaces(t, s+";@;")
		misplaces(t, s+"; @a")
		misplaces(t, "@;"+s)
	}
}

// P8.3: statements that are put one behind the other are split again.
func TestSpelledSplit(t *testing.T) {
	r := rand.New(rand.NewSource(6))
	texts, _ := spelled(7, 4000)
	for range 2000 {
		var l []string
		for range 1 + r.Intn(5) {
			l = append(l, respelled(t, r, texts[r.Intn(len(texts))]))
		}
		all := strings.Join(l, ";")
		if len(all)+10 > api.MaxText {
			continue
		}
		splits(t, all, l...)
		splits(t, " ;"+all+";", l...)
		got, _, _ := stmt.Split(all)
		for i, s := range got {
			want, _ := read(l[i])
			parses(t, s, want)
			tokens, _, _ := token.Cut(s)
			if slices.ContainsFunc(tokens, func(one api.Token) bool { return one.Kind == api.TSign && one.S == ";" }) {
				t.Fatalf("%q: has a `;`", s)
			}
		}
	}
}

// lists collects where the elements of all lists of a thing are kept.
func lists(v reflect.Value, seen map[uintptr]int) {
	switch v.Kind() {
	case reflect.Struct:
		for i := range v.NumField() {
			lists(v.Field(i), seen)
		}
	case reflect.Slice:
		for i := range v.Len() {
			seen[v.Index(i).Addr().Pointer()]++
			lists(v.Index(i), seen)
		}
	}
}

// R2: what Parse answers is the caller's own, and no two lists of it share anything.
func TestParseIsNew(t *testing.T) {
	texts, l := spelled(8, 2000)
	for i, s := range texts {
		first, _ := read(s)
		second, _ := read(s)
		seen := map[uintptr]int{}
		lists(reflect.ValueOf(&first).Elem(), seen)
		lists(reflect.ValueOf(&second).Elem(), seen)
		for _, many := range seen {
			if many > 1 {
				t.Fatalf("%q: lists share", s)
			}
		}
		spoil(reflect.ValueOf(&second).Elem())
		if !same(first, l[i]) {
			t.Fatalf("%q: got %s", s, shown(first))
		}
		parses(t, s, l[i])
	}
}

// spoil writes over all elements of all lists of a thing.
func spoil(v reflect.Value) {
	switch v.Kind() {
	case reflect.Struct:
		for i := range v.NumField() {
			spoil(v.Field(i))
		}
	case reflect.Slice:
		for i := range v.Len() {
			spoil(v.Index(i))
			v.Index(i).SetZero()
		}
	}
}
