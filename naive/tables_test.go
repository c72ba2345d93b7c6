package naive_test

import (
	"slices"
	"strconv"
	"testing"

	"boscage/api"
	"boscage/naive"
)

// P13.3: the scans' Tables, from the left, each once.
func TestTables(t *testing.T) {
	s := func(name string) api.Alg { return scan(name, 1) }
	wants(t, one())
	wants(t, s("t"), "t")
	wants(t, s(""), "")
	wants(t, cross(s("b"), s("a")), "b", "a")
	wants(t, cross(s("a"), s("b")), "a", "b")
	wants(t, cross(s("a"), s("a")), "a")
	wants(t, cross(s("a"), scan("a", 2)), "a")
	wants(t, put("except", cross(s("b"), s("a")), cross(s("a"), s("c"))), "b", "a", "c")
	wants(t, put("except", s("c"), put("union", put("unionall", s("b"), s("c")), s("a"))), "c", "b", "a")
	wants(t, put("except", put("union", s("c"), put("unionall", s("b"), s("c"))), s("a")), "c", "b", "a")
	wants(t, cross(one(), cross(s("T"), cross(s("t"), cross(s("t "), s("T"))))), "T", "t", "t ")
	for _, a := range []api.Alg{filter(lit(yes()), s("a")), project(nil, s("a")), group(nil, nil, s("a")), distinct(s("a")), sorted(nil, s("a")), limit(0, 0, s("a"))} {
		wants(t, a, "a")
		wants(t, cross(a, s("b")), "a", "b")
		wants(t, cross(s("b"), a), "b", "a")
		wants(t, distinct(limit(1, 1, a)), "a")
	}
	for _, kind := range kinds() {
		wants(t, join(kind, lit(yes()), s("y"), s("x")), "y", "x")
	}
	wants(t, queried("select 1", nil))
	wants(t, queried("select t.a from u, v, t where a > 1 union select e from v x join u y on e = 1 except select 1 from z, nil", tables()), "u", "v", "t", "z", "nil")
}

// P13.3: a Table counts of a scan alone; of algebra that may not be each scan is told as well.
func TestTablesOdd(t *testing.T) {
	s := func(name string) api.Alg { return scan(name, 1) }
	wants(t, api.Alg{})
	wants(t, api.Alg{Op: "one", Table: "a"})
	wants(t, api.Alg{Op: "filter", Table: "a", L: below(s("b"))}, "b")
	wants(t, api.Alg{Op: "Scan", Table: "a"})
	wants(t, api.Alg{Op: "scans", Table: "a", L: below(api.Alg{Table: "c"}, s("b"))}, "b")
	wants(t, api.Alg{Op: "odd", L: below(s("c"), s("a"), s("b"), s("a"))}, "c", "a", "b")
	wants(t, api.Alg{Op: "one", L: below(s("a"))}, "a")
	wants(t, api.Alg{Op: "scan", Table: "a", Wide: -1}, "a")
	wants(t, api.Alg{Op: "scan", Table: "a", L: below(s("a"))}, "a")
}

// P13.3: of many tables it ends ahead of long.
func TestTablesMany(t *testing.T) {
	var l []api.Alg
	var want []string
	for i := range 60000 {
		want = append(want, "t"+strconv.Itoa(i))
		l = append(l, scan(want[i], 1), scan(want[i/2], 1))
	}
	if got := naive.Tables(api.Alg{Op: "odd", L: l}); !slices.Equal(got, want) {
		t.Errorf("got %d tables", len(got))
	}
}
