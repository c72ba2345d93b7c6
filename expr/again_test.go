package expr_test

import (
	"math/rand"
	"strings"
	"testing"

	"boscage/api"
	"boscage/expr"
)

// P7.4: what is written is read again.
func TestAgain(t *testing.T) {
	good := 0
	for _, e := range some(8, 10000, 7) {
		s, err := expr.Text(e)
		if err != api.OK {
			t.Fatalf("%s: %d", shown(e), err)
		}
		if len(s) > api.MaxText {
			refuses(t, s, 0, api.ErrLong)
			continue
		}
		parses(t, s, e)
		good++
	}
	if good < 9000 {
		t.Errorf("only %d", good)
	}
	for _, e := range withParts(num(-5)) {
		s, _ := expr.Text(e)
		parses(t, s, e)
	}
	long := text(strings.Repeat("n", 4094))
	s, _ := expr.Text(long)
	parses(t, s, long)
}

// P7.4: brackets around change nothing.
func TestBracketsAround(t *testing.T) {
	for _, e := range some(9, 3000, 5) {
		s, _ := expr.Text(e)
		if len(s) > 2000 {
			continue
		}
		parses(t, "("+s+")", e)
		parses(t, " ( ( ("+s+") ) )", e)
		parses(t, "f(("+s+"))", call("f", e))
		parses(t, "("+s+") in (("+s+"))", op("in", e, e))
	}
}

// speller writes an expression with such brackets alone as it must have, and some more, in small and great letters, with blanks.
type speller struct {
	r      *rand.Rand
	blanks []string
	b      strings.Builder
}

// line is the line of the grammar that an expression is written by.
func line(e api.Expr) int {
	switch e.Op {
	case "or":
		return 1
	case "and":
		return 2
	case "not":
		return 3
	case "||":
		return 5
	case "+", "-":
		return 6
	case "*", "/", "%":
		return 7
	case "neg":
		return 8
	case "lit":
		if e.V.Kind == api.Int && e.V.I < 0 {
			return 8
		}
		return 9
	case "col", "call", "star":
		return 9
	}
	return 4
}

// say writes words and signs, with blanks between.
func (s *speller) say(words string) {
	for _, w := range strings.Fields(words) {
		if s.r.Intn(2) == 0 {
			w = strings.ToLower(w)
		}
		s.b.WriteString(w)
		s.b.WriteString(s.blanks[s.r.Intn(len(s.blanks))])
	}
}

// expr writes an expression where one of a line must stand.
func (s *speller) expr(e api.Expr, of int) {
	if line(e) < of || e.Op != "star" && s.r.Intn(12) == 0 {
		s.say("(")
		s.expr(e, 1)
		s.say(")")
		return
	}
	switch e.Op {
	case "lit", "col":
		s.single(e)
	case "star":
		s.say("*")
	case "call":
		s.say(e.Name + " (")
		s.list(e.L)
	case "neg":
		s.say("-")
		if part := e.L[0]; part.Op == "lit" && part.V.Kind == api.Int && part.V.I >= 0 {
			s.say("(")
			s.expr(part, 1)
			s.say(")")
			return
		}
		s.expr(e.L[0], 8)
	case "not":
		s.not(e.L[0])
	case "isnull", "notnull":
		s.expr(e.L[0], 5)
		s.say(map[string]string{"isnull": "IS NULL", "notnull": "IS NOT NULL"}[e.Op])
	case "like", "in", "between":
		s.asked(e, "")
	case "=", "<>", "<", "<=", ">", ">=":
		s.expr(e.L[0], 5)
		s.say(e.Op)
		s.expr(e.L[1], 5)
	default:
		s.expr(e.L[0], line(e))
		s.say(strings.ToUpper(e.Op))
		s.expr(e.L[1], line(e)+1)
	}
}

func (s *speller) single(e api.Expr) {
	text, _ := expr.Text(e)
	if e.Op != "lit" {
		text = strings.ReplaceAll(text, ".", " . ")
	}
	s.b.WriteString(text + " ")
}

// not writes NOT ahead, or ahead of the word.
func (s *speller) not(part api.Expr) {
	if o := part.Op; (o == "like" || o == "in" || o == "between") && s.r.Intn(2) == 0 {
		s.asked(part, "NOT ")
		return
	}
	s.say("NOT")
	s.expr(part, 3)
}

func (s *speller) asked(e api.Expr, not string) {
	s.expr(e.L[0], 5)
	switch e.Op {
	case "like":
		s.say(not + "LIKE")
		s.expr(e.L[1], 5)
	case "in":
		s.say(not + "IN (")
		s.list(e.L[1:])
	default:
		s.say(not + "BETWEEN")
		s.expr(e.L[1], 5)
		s.say("AND")
		s.expr(e.L[2], 5)
	}
}

func (s *speller) list(l []api.Expr) {
	for i, e := range l {
		if i > 0 {
			s.say(",")
		}
		s.expr(e, 1)
	}
	s.say(")")
}

// P7.2, P7.4: however an expression is written, it is read.
func TestSpelled(t *testing.T) {
	s := speller{r: rand.New(rand.NewSource(10)), blanks: []string{" ", "\n", " -- or (\n", "\t\r"}}
	good := 0
	for _, e := range some(11, 10000, 6) {
		s.b.Reset()
		s.expr(e, 1)
		if s.b.Len() <= api.MaxText {
			parses(t, s.b.String(), e)
			good++
		}
	}
	if good < 8000 {
		t.Errorf("only %d", good)
	}
}
