package stmt_test

import (
	"math/rand"
	"slices"
	"strings"
	"testing"

	"boscage/api"
	"boscage/expr"
	"boscage/stmt"
	"boscage/token"
)

// The grammar, a rule a line: [ ] may be left off, { } may stand any number of times, | tells ways apart. Other small words are rules, or name, number, expr; all else stands for itself.
const grammar = `
whole = stmt [ ; ]
stmt = query | insert | update | delete | createtable | createindex | DROP TABLE name | DROP INDEX name | BEGIN | COMMIT | ROLLBACK
query = select { put select } [ ORDER BY key { , key } ] [ LIMIT number [ OFFSET number ] ]
put = UNION | UNION ALL | INTERSECT | EXCEPT
key = expr | expr ASC | expr DESC
select = SELECT [ DISTINCT | ALL ] item { , item } [ FROM from ] [ WHERE expr ] [ GROUP BY expr { , expr } ] [ HAVING expr ]
item = * | name . * | expr [ [ AS ] name ]
from = joined { , joined }
joined = one { CROSS JOIN one | [ INNER ] JOIN one ON expr | outer [ OUTER ] JOIN one ON expr }
outer = LEFT | RIGHT | FULL
one = name [ [ AS ] name ] | ( from )
names = ( name { , name } )
row = ( expr { , expr } )
insert = INSERT INTO name [ names ] VALUES row { , row }
set = name = expr
update = UPDATE name SET set { , set } [ WHERE expr ]
delete = DELETE FROM name [ WHERE expr ]
createtable = CREATE TABLE name ( column { , column } )
column = name type said
said = [ null ] [ unique ] [ primary ] | [ null ] [ primary ] [ unique ] | [ unique ] [ null ] [ primary ] | [ unique ] [ primary ] [ null ] | [ primary ] [ null ] [ unique ] | [ primary ] [ unique ] [ null ]
null = NOT NULL
unique = UNIQUE
primary = PRIMARY KEY
type = INT | TEXT | BOOL | BLOB
createindex = CREATE [ UNIQUE ] INDEX name ON name names`

// plain reads by the rules alone, trying all ways, and keeps the farthest token that did not go.
type plain struct {
	rules  map[string][]string
	tokens []api.Token
	far    int
}

func newPlain() *plain {
	p := &plain{rules: map[string][]string{}}
	for _, line := range strings.Split(strings.TrimSpace(grammar), "\n") {
		of, by, _ := strings.Cut(line, " = ")
		p.rules[of] = strings.Fields(by)
	}
	return p
}

// ways are a rule's pieces, cut at each `|` that stands in no brackets.
func ways(l []string) [][]string {
	var out [][]string
	depth, from := 0, 0
	for i, s := range l {
		switch {
		case s == "[" || s == "{":
			depth++
		case s == "]" || s == "}":
			depth--
		case s == "|" && depth == 0:
			out, from = append(out, l[from:i]), i+1
		}
	}
	return append(out, l[from:])
}

// any tells up to where one of the ways may stand, from each of the places on.
func (p *plain) any(l []string, from []int) []int {
	var out []int
	for _, way := range ways(l) {
		out = append(out, p.row(way, from)...)
	}
	slices.Sort(out)
	return slices.Compact(out)
}

func (p *plain) row(l []string, from []int) []int {
	for i := 0; i < len(l) && len(from) > 0; i++ {
		if l[i] != "[" && l[i] != "{" {
			from = p.piece(l[i], from)
			continue
		}
		shut := i
		for depth := 1; depth > 0; {
			shut++
			switch l[shut] {
			case "[", "{":
				depth++
			case "]", "}":
				depth--
			}
		}
		from = p.optional(l[i+1:shut], from, l[i] == "{")
		i = shut
	}
	return from
}

// optional is what may stand once, or often.
func (p *plain) optional(l []string, from []int, often bool) []int {
	out, last := from, from
	for len(last) > 0 {
		last = p.any(l, last)
		out = append(slices.Clone(out), last...)
		if !often {
			break
		}
	}
	slices.Sort(out)
	return slices.Compact(out)
}

func (p *plain) piece(s string, from []int) []int {
	if rule, is := p.rules[s]; is {
		return p.any(rule, from)
	}
	var out []int
	for _, i := range from {
		to, is := p.single(s, i)
		if is {
			out = append(out, to)
		} else {
			p.far = max(p.far, to)
		}
	}
	return out
}

// single tells where it ends what has no rule, or which token does not go.
func (p *plain) single(s string, i int) (int, bool) {
	t := p.tokens[i]
	is := false
	switch s {
	case "expr":
		_, to, err := expr.At(p.tokens, i)
		return to, err == api.OK
	case "name":
		is = t.Kind == api.TWord && token.IsName(t.S)
	case "number":
		is = t.Kind == api.TInt && t.I >= 0
	default:
		is = (t.Kind == api.TWord || t.Kind == api.TSign) && t.S == strings.ToLower(s)
	}
	if is {
		return i + 1, true
	}
	return i, false
}

// place is the token that does not go, and whether there is one.
func (p *plain) place(l []api.Token) (int, bool) {
	p.tokens, p.far = l, 0
	for _, to := range p.any(p.rules["whole"], []int{0}) {
		if to == len(l)-1 {
			return to, false
		}
		p.far = max(p.far, to)
	}
	return p.far, true
}

// asksPlain asks Parse of a text against the rules, and tells whether it is a statement (1), and whether all its tokens go.
func asksPlain(t *testing.T, p *plain, s string) (good int, goes bool) {
	t.Helper()
	l, _, err := token.Cut(s)
	if err != api.OK {
		return 0, false
	}
	i, wrong := p.place(l)
	if wrong {
		refuses(t, s, l[i].At, api.ErrSyntax)
		return 0, i == len(l)-1
	}
	if got, at, err := stmt.Parse(s); at != 0 || err != api.OK || got.Op == "" {
		t.Fatalf("%q: got %s, %d, %d", s, shown(got), at, err)
	}
	return 1, true
}

// somePieces are what statements are written by, and what they may not have.
func somePieces() []string {
	return append(reserved(), "a", "t", "count", "1", "9223372036854775808", "'from'", "x'28'", "(", ")", ",", ".", "*", ";", "=", "-", "+", "||")
}

// P8.1: all tokens that may come, one behind another, at most places of the grammar.
func TestParseNext(t *testing.T) {
	p := newPlain()
	good := 0
	for _, ahead := range []string{
		"", "select", "select distinct", "select all", "select *", "select a", "select t . ", "select t . *", "select a as", "select a as b", "select a b ,", "select count (",
		"select a from", "select a from t", "select a from t as", "select a from t x", "select a from t ,", "select a from (", "select a from ( t", "select a from ( t )", "select a from ( t x , u )", "select a from t join", "select a from t join u", "select a from t join u y", "select a from t join u on", "select a from t join u on a", "select a from t left", "select a from t full outer", "select a from t cross", "select a from t cross join u", "select a from t inner", "select a from t , u right join v on a",
		"select a where", "select a where b", "select a from t where a =", "select a group", "select a group by", "select a group by b", "select a group by b ,", "select a having", "select a having b", "select a order", "select a order by", "select a order by b", "select a order by b asc", "select a order by b desc ,", "select a limit", "select a limit 1", "select a limit 1 offset", "select a limit 1 offset 2", "select a union", "select a union all", "select a except select b", "select a intersect", "select a from t ;",
		"insert", "insert into", "insert into t", "insert into t (", "insert into t ( a", "insert into t ( a ,", "insert into t ( a )", "insert into t values", "insert into t values (", "insert into t values ( a", "insert into t values ( 1 ,", "insert into t values ( 1 )", "insert into t values ( 1 ) ,", "update", "update t", "update t set", "update t set a", "update t set a =", "update t set a = 1", "update t set a = 1 ,", "update t set a = 1 where", "update t set a = 1 where b", "delete", "delete from", "delete from t", "delete from t where", "delete from t where a",
		"create", "create table", "create table t", "create table t (", "create table t ( a", "create table t ( a int", "create table t ( a int not", "create table t ( a int not null", "create table t ( a text primary", "create table t ( a bool primary key", "create table t ( a blob unique", "create table t ( a int unique not null", "create table t ( a int primary key not null", "create table t ( a int unique primary key not null", "create table t ( a int ,", "create table t ( a int )", "create unique", "create index", "create unique index", "create index i", "create index i on", "create index i on t", "create index i on t (", "create index i on t ( a", "create index i on t ( a ,", "create index i on t ( a )", "drop", "drop table", "drop table t", "drop index", "drop index i", "begin", "commit", "rollback", "rollback ;",
	} {
		for _, a := range somePieces() {
			is, goes := asksPlain(t, p, ahead+" "+a)
			good += is
			for _, b := range somePieces() {
				if !goes {
					break
				}
				is, _ := asksPlain(t, p, ahead+" "+a+" "+b)
				good += is
			}
		}
	}
	if good < 2000 {
		t.Errorf("only %d statements", good)
	}
}

// P8.1: statements with something else in the place of some tokens.
func TestParseMost(t *testing.T) {
	p := newPlain()
	r := rand.New(rand.NewSource(9))
	pieces := somePieces()
	texts, _ := spelled(10, 12000)
	good := 0
	for _, s := range texts {
		words := strings.Fields(s)
		if len(words) > 60 {
			continue
		}
		is, _ := asksPlain(t, p, s)
		good += is
		for range 3 {
			changed := slices.Clone(words)
			for range 1 + r.Intn(2) {
				i := r.Intn(len(changed))
				switch r.Intn(5) {
				case 0:
					changed[i] = pieces[r.Intn(len(pieces))]
				case 1:
					changed[i] += " " + pieces[r.Intn(len(pieces))]
				case 2:
					changed[i] = ""
				case 3:
					changed = changed[:i+1]
				default:
					changed[i] = words[r.Intn(len(words))]
				}
			}
			is, _ := asksPlain(t, p, strings.Join(changed, " "))
			good += is
		}
	}
	if good < 12000 {
		t.Errorf("only %d statements", good)
	}
}
