package eval_test

import (
	"math/rand"
	"slices"
	"strconv"
	"strings"
	"testing"

	"boscage/api"
	"boscage/eval"
)

// The values and expressions that tests are made of.
func num(i int64) api.Value               { return api.Value{Kind: api.Int, I: i} }
func text(s string) api.Value             { return api.Value{Kind: api.Text, S: s} }
func blob(s string) api.Value             { return api.Value{Kind: api.Blob, S: s} }
func null() api.Value                     { return api.Value{} }
func no() api.Value                       { return api.Value{Kind: api.Bool} }
func yes() api.Value                      { return api.Value{Kind: api.Bool, I: 1} }
func lit(v api.Value) api.Expr            { return api.Expr{Op: "lit", V: v} }
func at(place int64) api.Expr             { return api.Expr{Op: "at", V: num(place)} }
func op(o string, l ...api.Expr) api.Expr { return api.Expr{Op: o, L: l} }
func call(name string, l ...api.Expr) api.Expr {
	return api.Expr{Op: "call", Name: name, L: l}
}

// fails is what has an error wherever it stands, and hangs on no row.
func fails() api.Expr { return op("/", lit(num(1)), lit(num(0))) }

const most, least = 1<<63 - 1, -1 << 63

// some are values of all Kinds, at the edges.
func some() []api.Value {
	return []api.Value{null(), no(), yes(), num(0), num(1), num(-7), num(2), num(most), num(least), text(""), text("a"), text("A%"), text("\\"), blob(""), blob("a"), blob("\x00\xff")}
}

// lits are the lits of values.
func lits(l ...api.Value) []api.Expr {
	var out []api.Expr
	for _, v := range l {
		out = append(out, lit(v))
	}
	return out
}

// ats are the ats of the first so many places.
func ats(many int) []api.Expr {
	var out []api.Expr
	for i := range many {
		out = append(out, at(int64(i)))
	}
	return out
}

// The Ops that have parts alone, by how many.
func onesOps() []string { return []string{"neg", "not", "isnull", "notnull"} }
func arithOps() []string {
	return []string{"+", "-", "*", "/", "%"}
}
func relOps() []string { return []string{"=", "<>", "<", "<=", ">", ">="} }
func twosOps() []string {
	return slices.Concat(arithOps(), relOps(), []string{"and", "or", "||", "like"})
}

// withPart are all Ops with a part at each of their places.
func withPart(part api.Expr) []api.Expr {
	x, y := lit(num(7)), at(0)
	var l []api.Expr
	for _, o := range onesOps() {
		l = append(l, op(o, part))
	}
	for _, o := range twosOps() {
		l = append(l, op(o, part, x), op(o, y, part))
	}
	l = append(l, op("between", part, x, y), op("between", x, part, y), op("between", x, y, part))
	l = append(l, op("in", part, x), op("in", x, part), op("in", x, y, part, x))
	return append(l, call("abs", part), call("coalesce", x, part), call("none", part, x))
}

// nested has a part in so many of one Op.
func nested(o string, many int, part api.Expr) api.Expr {
	for range many {
		part = op(o, part)
	}
	return part
}

// same asks whether two are the same, without the program.
func same(a, b api.Expr) bool {
	return a.Op == b.Op && a.V == b.V && a.Table == b.Table && a.Name == b.Name && slices.EqualFunc(a.L, b.L, same)
}

func copied(e api.Expr) api.Expr {
	e.L = slices.Clone(e.L)
	for i := range e.L {
		e.L[i] = copied(e.L[i])
	}
	return e
}

// spoil writes over all parts of an expression.
func spoil(e api.Expr) {
	for i := range e.L {
		spoil(e.L[i])
		e.L[i] = api.Expr{Op: "spoilt"}
	}
}

func shownValue(v api.Value) string {
	s := v.S
	if len(s) > 60 {
		s = s[:60] + ".."
	}
	return "{" + strconv.Itoa(v.Kind) + " " + strconv.FormatInt(v.I, 10) + " " + strconv.Quote(s) + "}"
}

// shown is an expression as a test tells it, the deepest parts left out.
func shown(e api.Expr) string {
	var b strings.Builder
	show(&b, e, 50)
	return b.String()
}

func show(b *strings.Builder, e api.Expr, depth int) {
	if depth == 0 {
		b.WriteString("..")
		return
	}
	b.WriteString(e.Op)
	if e.V != (api.Value{}) || e.Op == "lit" {
		b.WriteString(shownValue(e.V))
	}
	if e.Table != "" || e.Name != "" {
		b.WriteString("[" + e.Table + "." + e.Name + "]")
	}
	for i, part := range e.L {
		b.WriteString([]string{"(", ", "}[min(i, 1)])
		show(b, part, depth-1)
	}
	if len(e.L) > 0 {
		b.WriteString(")")
	}
}

// evals asks what Eval answers, and that it changes nothing.
func evals(t *testing.T, e api.Expr, r api.Row, want api.Value, err api.Errno) {
	t.Helper()
	before, row := copied(e), slices.Clone(r)
	if got, g := eval.Eval(e, r); got != want || g != err {
		t.Fatalf("%s of %v: got %s, %d, want %s, %d", shown(e), r, shownValue(got), g, shownValue(want), err)
	}
	if !same(e, before) || !slices.Equal(r, row) {
		t.Fatalf("%s of %v was changed", shown(before), row)
	}
}

// maker makes expressions at random, but the same ones each time: those of the places 0 to 5 (a NULL or an Int, a Text, a Bool at each third one) that mostly go together.
type maker struct{ r *rand.Rand }

func (m maker) pick(l ...api.Expr) api.Expr { return l[m.r.Intn(len(l))] }

// leaf is one of a Kind, seldom of any.
func (m maker) leaf(kind int) api.Expr {
	if m.r.Intn(15) == 0 {
		return m.pick(append(lits(some()...), ats(6)...)...)
	}
	switch kind {
	case api.Int:
		return m.pick(at(0), at(3), lit(num(2)), lit(num(3)), lit(num(0)), lit(num(-1)), lit(num(5)), lit(null()))
	case api.Text:
		return m.pick(at(1), at(4), lit(text("a")), lit(text("a%")), lit(text("")), lit(text("_b")), lit(null()))
	}
	return m.pick(at(2), at(5), lit(yes()), lit(no()), lit(null()))
}

// form is how one Op's, or one call's, parts are: their Kinds, a letter each (i an Int, t a Text, b a Bool, x what all others with an x are).
type form struct{ op, call, parts string }

func forms(kind int) []form {
	var l []form
	switch kind {
	case api.Int:
		for _, o := range arithOps() {
			l = append(l, form{o, "", "ii"})
		}
		return append(l, form{"neg", "", "i"}, form{"call", "abs", "i"}, form{"call", "length", "t"}, form{"call", "coalesce", "iii"}, form{"call", "instr", "tt"})
	case api.Text:
		return append(l, form{"||", "", "tt"}, form{"call", "upper", "t"}, form{"call", "substr", "tii"}, form{"call", "nullif", "tt"})
	}
	for _, o := range relOps() {
		l = append(l, form{o, "", "xx"})
	}
	return append(l, form{"not", "", "b"}, form{"and", "", "bb"}, form{"or", "", "bb"}, form{"isnull", "", "x"}, form{"notnull", "", "x"}, form{"like", "", "tt"}, form{"in", "", "xxx"}, form{"in", "", "xx"}, form{"between", "", "xxx"})
}

// make is an expression of a Kind, at the most so deep.
func (m maker) make(kind, depth int) api.Expr {
	if depth <= 1 {
		return m.leaf(kind)
	}
	l := forms(kind)
	f := l[m.r.Intn(len(l))]
	e := api.Expr{Op: f.op, Name: f.call}
	kinds := map[rune]int{'i': api.Int, 't': api.Text, 'b': api.Bool, 'x': 1 + m.r.Intn(3)}
	for _, letter := range f.parts {
		e.L = append(e.L, m.make(kinds[letter], depth-1-m.r.Intn(2)))
	}
	return e
}

// row is one for these expressions.
func (m maker) row() api.Row {
	var r api.Row
	for i := range 6 {
		v := [][]api.Value{{num(0), num(1), num(-3), null()}, {text(""), text("ab"), text("a"), null()}, {yes(), no(), null()}}[i%3]
		r = append(r, v[m.r.Intn(len(v))])
	}
	return r
}

// anyOf are so many expressions of all Kinds.
func (m maker) anyOf(many, depth int) []api.Expr {
	var l []api.Expr
	for range many {
		l = append(l, m.make([]int{api.Bool, api.Int, api.Text}[m.r.Intn(3)], 1+m.r.Intn(depth)))
	}
	return l
}

func newMaker(seed int64) maker { return maker{rand.New(rand.NewSource(seed))} }

// anything is an expression of any Op, with any parts and names, at random: mostly none that may be.
func anything(r *rand.Rand, depth int) api.Expr {
	ops := slices.Concat(onesOps(), twosOps(), []string{"", "lit", "lit", "at", "at", "at", "col", "call", "star", "in", "between", "x"})
	names := []string{"", "a", "count", "abs", "substr", "coalesce", "A"}
	e := api.Expr{Op: ops[r.Intn(len(ops))]}
	if e.Op == "lit" || e.Op == "at" || r.Intn(9) == 0 {
		e.V = api.Value{Kind: []int{api.Int, api.Int, api.Int, 0, 1, 3, 4, -1, 64}[r.Intn(9)], I: []int64{0, 1, 2, 3, -1, most, least}[r.Intn(7)], S: []string{"", "", "", "a"}[r.Intn(4)]}
	}
	if e.Op == "call" || r.Intn(9) == 0 {
		e.Name = names[r.Intn(len(names))]
	}
	if r.Intn(19) == 0 {
		e.Table = "t"
	}
	if depth > 1 && (e.Op != "lit" && e.Op != "at" || r.Intn(4) == 0) {
		for range r.Intn(4) {
			e.L = append(e.L, anything(r, depth-1))
		}
	}
	return e
}
