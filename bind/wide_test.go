package bind_test

import (
	"strconv"
	"strings"
	"testing"

	"boscage/api"
)

// many is a text so often, with `, ` between; each # in it is the number, from 0 on.
func many(n int, s string) string {
	var l []string
	for i := range n {
		l = append(l, strings.ReplaceAll(s, "#", strconv.Itoa(i)))
	}
	return strings.Join(l, ", ")
}

// good asks whether a text's query has no error; queries asks for the rest.
func good(t *testing.T, l ...string) {
	t.Helper()
	for _, s := range l {
		if a, _, err := queries(t, asked(s), tables()); err != api.OK {
			t.Errorf("%q: got %s, %d", s, told(a), err)
		}
	}
}

// P12.1: 64 go, 65 are ErrLong.
func TestLong(t *testing.T) {
	good(t,
		"select * from w", "select 1 from h, h x", "select 1 from w, z", "select 1 from w join z on k0 = 1", "select "+many(64, "1"),
		"select "+many(62, "1")+", * from t", "select h.*, "+many(31, "1")+", x.k1 from h, h x", "select "+many(64, "#")+" from w group by k0",
		"select count(*), "+many(63, "2")+" from t", "select 1 from w group by "+many(64, "k#"), "select count(*) from w group by "+many(63, "k#"),
		"select "+many(64, "sum(k#)")+" from w", "select 1 from w having 0 in ("+many(64, "max(k#)")+")", "select w.* from w",
		"select "+many(64, "sum(k1)")+" from w", "select * from w union select * from h, h x order by 64",
	)
	refuses(t, api.ErrLong,
		"select 1 from x", "select * from x", "select count(*) from x", "select 1 from w, o", "select 1 from o, w", "select 1 from w left join o on true",
		"select 1 from h, (h x, o)", "select 1 from h, h x, o", "select "+many(65, "1"), "select "+many(63, "1")+", * from t", "select *, * from h, o",
		"select *, 1 from w", "select w.*, 1 from w", "select h.*, h.*, 1 from h", "select "+many(65, "#")+" from w group by k0",
		"select count(*), "+many(64, "2")+" from t", "select 1 from w group by "+many(65, "1"), "select count(*) from w group by "+many(64, "k#"),
		"select "+many(63, "k#")+" from w group by "+many(63, "k#")+" having min(k0) < max(k1)", "select "+many(64, "sum(k#)")+", max(k1) from w",
		"select 1 from w having 0 in ("+many(65, "max(k1 + #)")+")", "select "+many(65, "sum(k1)")+" from w", "select 1 union select "+many(65, "1"),
		"select distinct "+many(1300, "1"),
	)
	refuses(t, api.ErrUse, "select * from w order by 65", "select 1 union select "+many(64, "1"))
}

// P12.1: of a scan it is told where the table is found, of a join behind both sides, ahead of their names.
func TestLongFrom(t *testing.T) {
	refuses(t, api.ErrLong,
		"select n from x where count()", "select 1 from x, v", "select 1 from x, x", "select 1 from t, x, v", "select 1 from w, w",
		"select 1 from w join w on n = 1", "select 1 from w join o on n = 1", "select 1 from w join o on max(k0)", "select 1 from w, o, v",
		"select 1 from h, h x, o, t, t", "select 1 from t join (x join v on true) on n = 1", "select n from w, o where n = 1 group by n order by n",
		"select 1 from x union select n", "select count() from w, o",
	)
	refuses(t, api.ErrName,
		"select 1 from v, x", "select 1 from w, v", "select 1 from w, (o, o)", "select 1 from o, o, w", "select 1 from o, o x, (o y, o x), x",
		"select 1 from h, h, x", "select n union select 1 from x", "select 1 from w, (o join t on n = 1)",
	)
	refuses(t, api.ErrUse, "select 1 from w, (o join t on max(b) = 1)", "select 1 union select 2, 3 union select 4 from x")
}

// P12.1: of a group it is told behind all of its items and Having, of a project behind one with it, else ahead of all items.
func TestLongItems(t *testing.T) {
	refuses(t, api.ErrLong,
		"select n, "+many(64, "1"), "select "+many(64, "1")+", n", "select n, *, v.* from w", "select v.*, *, 1 from w", "select v.*, w.*, n from w",
		"select *, t.a, n from w", "select "+many(65, "n")+" from t order by 9", "select "+many(65, "n"),
	)
	refuses(t, api.ErrName,
		"select v.*, * from w", "select "+many(64, "1")+", v.* from w", "select v.*, "+many(64, "1")+" from w", "select n, "+many(63, "1")+", v.*",
		"select n, "+many(63, "1")+" from t order by 9", "select "+many(65, "1")+" from t where n = 1", "select "+many(65, "1")+" from t group by n",
		"select "+many(64, "1")+", sum(n) from t", "select sum(n), "+many(64, "sum(k#)")+" from w", "select "+many(65, "1")+" from t having sum(n) = 1",
		"select count(*) from w group by "+many(64, "k#")+" having sum(n) = 1", "select sum(n) from w group by "+many(65, "1"),
		"select 1 from w group by "+many(65, "1")+", n", "select sum(k1 + n), "+many(65, "sum(k1 + #)")+" from w",
	)
	refuses(t, api.ErrUse,
		"select "+many(65, "1")+" from t where count(*)", "select "+many(65, "1")+", count(*), a from t", "select "+many(65, "1")+", * from t group by a",
		"select *, count(*) from w", "select a, "+many(65, "1")+" from t having true", "select "+many(65, "1")+" from t having a = 1",
		"select count(*) from w group by "+many(64, "k#")+" having max(k0, 1) = 1", "select 1 from w group by "+many(65, "1")+", count(*)",
	)
}
