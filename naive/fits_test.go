package naive_test

import (
	"slices"
	"strings"
	"testing"

	"boscage/api"
	"boscage/naive"
	"boscage/value"
)

// odd are values that may not be.
func odd() []api.Value {
	return []api.Value{{I: 1}, {S: "a"}, {Kind: api.Bool, I: 2}, {Kind: api.Bool, I: -1}, {Kind: api.Bool, I: 1, S: "a"}, {Kind: api.Int, S: "1"}, {Kind: api.Text, I: 1}, {Kind: api.Text, I: 3, S: "abc"}, {Kind: api.Blob, I: 1, S: "a"}, {Kind: api.Blob + 1}, {Kind: 9, I: 1}, {Kind: -1}, {Kind: least}}
}

// even are values that may be.
func even() []api.Value {
	return []api.Value{null(), no(), yes(), num(least), num(-1), num(0), num(most), text(""), text("a\x00'"), text("\xff"), blob(""), blob("\x00"), text(strings.Repeat("a", 5000))}
}

func only(rows ...api.Row) []api.Data { return []api.Data{{Table: "t", L: rows}} }

// P13.2: whether each row is Wide values long.
func TestFitsWide(t *testing.T) {
	for wide := range 66 {
		r := slices.Repeat(api.Row{num(1)}, wide)
		longer, shorter := append(slices.Clone(r), null()), r[:max(wide-1, 0)]
		fits(t, scan("t", wide), only(r), wide <= 64)
		fits(t, scan("t", wide), only(r, r, r), wide <= 64)
		fits(t, scan("t", wide), only(longer), false)
		fits(t, scan("t", wide), only(r, r, longer), false)
		fits(t, scan("t", wide), only(longer, r), false)
		fits(t, scan("t", wide), only(shorter), wide == 0)
		fits(t, scan("t", wide), only(r, shorter, r), wide == 0)
		fits(t, scan("t", wide), only(), true)
	}
	for _, wide := range []int{-1, least, most, 1 << 32, 1<<32 + 1, 65, 128} {
		fits(t, scan("t", wide), only(nil), false)
		fits(t, scan("t", wide), only(row(num(1))), false)
		fits(t, scan("t", wide), only(), true)
		fits(t, scan("t", wide), nil, true)
	}
	for _, wide := range []int{65, 66, 128, 1000} {
		fits(t, scan("t", wide), only(make(api.Row, wide)), false)
	}
}

// P13.2: whether each row may be: each value of it, wherever it stands.
func TestFitsValues(t *testing.T) {
	for _, v := range even() {
		fits(t, scan("t", 1), only(row(v)), true)
		fits(t, scan("t", 3), only(row(v, v, v), row(v, null(), v)), true)
		fits(t, scan("t", 2), only(row(v, v), row(v)), false)
	}
	for _, v := range odd() {
		fits(t, scan("t", 1), only(row(v)), false)
		fits(t, scan("t", 2), only(row(v)), false)
		for place := range 4 {
			r := slices.Insert(row(num(1), text("a"), null()), place, v)
			good := row(num(1), text("a"), yes(), null())
			fits(t, scan("t", 4), only(r), false)
			fits(t, scan("t", 4), only(good, good, r), false)
			fits(t, scan("t", 4), only(r, good), false)
		}
		long := make(api.Row, 64)
		fits(t, scan("t", 64), only(long), true)
		long[63] = v
		fits(t, scan("t", 64), only(long), false)
	}
	for _, r := range []api.Row{nil, even(), odd(), make(api.Row, 64), make(api.Row, 65), append(even(), odd()[3]), slices.Repeat(row(odd()[0]), 65)} {
		fits(t, scan("t", len(r)), only(r), value.CheckRow(r) == api.OK)
	}
}

// P13.2: the first of db with the Table alone; also if there is none.
func TestFitsTables(t *testing.T) {
	bad := row(api.Value{Kind: 9})
	db := []api.Data{{Table: "a", L: nums(1)}, {Table: "b", L: list(bad)}, {Table: "c"}, {Table: "a", L: list(bad)}, {Table: "b", L: nums(1)}, {Table: "c", L: list(bad)}, {L: nums(1, 2)}}
	for table, want := range map[string]bool{"a": true, "b": false, "c": true, "": true, "d": true, "A": true, "B": true, "ab": true} {
		fits(t, scan(table, 1), db, want)
	}
	slices.Reverse(db)
	for table, want := range map[string]bool{"a": false, "b": true, "c": false, "": true, "d": true} {
		fits(t, scan(table, 1), db, want)
	}
	fits(t, scan("a", 1), nil, true)
	fits(t, one(), db, true)
	fits(t, api.Alg{}, db, true)
}

// P13.2: for each scan, wherever it stands.
func TestFitsEach(t *testing.T) {
	good, bad := scan("t", 2), scan("t", 3)
	around := func(a api.Alg) []api.Alg {
		return []api.Alg{a, filter(lit(yes()), a), project(nil, a), cross(a, good), cross(good, a), cross(one(), a), put("union", a, good), put("union", good, a), group(nil, nil, a), distinct(a), sorted(nil, a), limit(0, 0, a)}
	}
	for _, x := range around(good) {
		for _, y := range around(x) {
			fits(t, y, data(), true)
		}
	}
	for _, x := range around(bad) {
		for _, y := range around(x) {
			fits(t, y, data(), false)
			fits(t, y, data()[2:3], false)
			fits(t, y, data()[3:], true)
		}
	}
	fits(t, cross(scan("u", 2), cross(scan("none", 5), scan("nil", 7))), data(), true)
	fits(t, cross(scan("u", 2), cross(scan("none", 5), scan("v", 2))), data(), false)
	fits(t, cross(scan("u", 1), scan("u", 2)), data(), false)
	fits(t, cross(scan("u", 2), scan("u", 1)), data(), false)
	// Of algebra that may not be each scan is asked as well.
	for _, a := range []api.Alg{{Op: "odd", L: below(good, bad, good)}, {L: below(bad)}, {Op: "one", L: below(bad)}, {Op: "scan", Table: "v", Wide: 1, L: below(bad)}, {Op: "scan", Table: "t", Wide: 3, L: below(good)}, {Op: "join", L: below(good, good, bad)}} {
		fits(t, a, data(), false)
		fits(t, a, data()[3:], true)
	}
}

// P13.2: of many rows, and of many scans, it ends ahead of long.
func TestFitsMany(t *testing.T) {
	rows := slices.Repeat(list(row(num(1), text("a"), null())), 100000)
	if !naive.Fits(scan("t", 3), only(rows...)) {
		t.Error("got false")
	}
	rows[99999] = row(num(1), text("a"), api.Value{S: "a"})
	if naive.Fits(scan("t", 3), only(rows...)) {
		t.Error("got true")
	}
}
