package value_test

import (
	"testing"

	"boscage/api"
	"boscage/value"
)

// slowlySorted puts each row behind all that do not stand behind it: in order, and as they stood.
func slowlySorted(l []api.Row) []api.Row {
	var out []api.Row
	for _, r := range l {
		at := len(out)
		for at > 0 && value.CompareRows(out[at-1], r) > 0 {
			at--
		}
		out = append(out, nil)
		copy(out[at+1:], out[at:])
		out[at] = r
	}
	return out
}

// P1.2: rows in order, each as often as it stood there.
func TestSorted(t *testing.T) {
	for _, l := range [][]api.Row{
		nil,
		{},
		{nil},
		{{num(1)}},
		{{num(2)}, {num(1)}},
		{{num(1)}, {num(2)}},
		{{num(1)}, {num(1)}, {num(1)}},
		{{num(2)}, {num(1), num(5)}, {num(1)}, nil, {null}, {num(2)}},
		{{blob("\x00")}, {text("a")}, {num(-5)}, {yes}, {null}, {}},
		{{wrong}, {{Kind: 7}}, {{Kind: -7}}, {null}, {{I: 1}}, {{I: -1}}},
		{make(api.Row, 100), make(api.Row, 65), make(api.Row, 64)},
		many(3000),
	} {
		if got, want := value.Sorted(l), slowlySorted(l); !sameList(got, want) {
			t.Errorf("%v: got %v, want %v", l, got, want)
		}
	}
}

// P1.2: all lists of up to five of some rows.
func TestSortedAll(t *testing.T) {
	some := []api.Row{nil, {num(1)}, {num(1), null}, {num(2)}}
	lists := [][]api.Row{nil}
	for from, n := 0, 0; n < 5; n++ {
		end := len(lists)
		for _, l := range lists[from:end] {
			for _, r := range some {
				lists = append(lists, append(append([]api.Row{}, l...), r))
			}
		}
		from = end
	}
	for _, l := range lists {
		if got, want := value.Sorted(l), slowlySorted(l); !sameList(got, want) {
			t.Fatalf("%v: got %v, want %v", l, got, want)
		}
	}
}

// P1.2: rows at the same place stay as they stood. All that can tell two of them apart is that one is nil, and the other empty.
func TestSortedStays(t *testing.T) {
	var l []api.Row
	for i := range 500 {
		switch {
		case i%7 == 0:
			l = append(l, api.Row{num(int64(-i))})
		case i*i%5 == 1:
			l = append(l, nil)
		default:
			l = append(l, api.Row{})
		}
	}
	got, want := value.Sorted(l), slowlySorted(l)
	for i := range want {
		if (got[i] == nil) != (want[i] == nil) {
			t.Fatalf("at %d: got %v, want %v", i, got[i] == nil, want[i] == nil)
		}
	}
}

// R2: what is handed in stays as it is, and the answer is the caller's own.
func TestSortedIsNew(t *testing.T) {
	l := many(100)
	l = append(l, l[0], l[0][:1])
	was := copied(l)
	got := value.Sorted(l)
	if !sameList(l, was) {
		t.Fatal("what was handed in was changed")
	}
	first := copied(got)
	for i := range l {
		l[i][0] = blob("written behind the call")
		l[i] = nil
	}
	if !sameList(got, first) {
		t.Fatal("the answer was changed by what was handed in")
	}
	again := value.Sorted(got)
	for i := range again {
		again[i][0] = num(int64(i))
		again[i] = append(again[i], null)
	}
	if !sameList(got, first) {
		t.Fatal("what was handed in was changed by the answer")
	}
	for i := range again {
		if again[i][0] != num(int64(i)) {
			t.Fatal("two rows of the answer share what they are made of")
		}
	}
}

// P1.4: sorted again nothing changes.
func TestSortedAgain(t *testing.T) {
	got := value.Sorted(many(2000))
	for i := 1; i < len(got); i++ {
		if value.CompareRows(got[i-1], got[i]) > 0 {
			t.Fatalf("%v ahead of %v", got[i-1], got[i])
		}
	}
	if !sameList(value.Sorted(got), got) {
		t.Error("sorted again it is another one")
	}
}

// P1.2: the same rows, each as often.
func TestSameBag(t *testing.T) {
	a, b, c := api.Row{num(1)}, api.Row{num(1), null}, api.Row{text("a")}
	for i, x := range []struct {
		a, b []api.Row
		want bool
	}{
		{nil, nil, true},
		{nil, []api.Row{}, true},
		{nil, []api.Row{nil}, false},
		{[]api.Row{nil}, nil, false},
		{[]api.Row{nil}, []api.Row{{}}, true},
		{[]api.Row{nil}, []api.Row{{null}}, false},
		{[]api.Row{nil, nil}, []api.Row{{}}, false},
		{[]api.Row{a}, []api.Row{a}, true},
		{[]api.Row{a}, []api.Row{b}, false},
		{[]api.Row{a}, []api.Row{a, a}, false},
		{[]api.Row{a, a}, []api.Row{a}, false},
		{[]api.Row{a, b}, []api.Row{b, a}, true},
		{[]api.Row{a, a, b}, []api.Row{a, b, b}, false},
		{[]api.Row{a, b, a}, []api.Row{a, a, b}, true},
		{[]api.Row{a, b, c}, []api.Row{c, a, b}, true},
		{[]api.Row{a, b, c}, []api.Row{c, a, a}, false},
		{[]api.Row{a, b, c, c, b, a}, []api.Row{a, a, b, b, c, c}, true},
		{[]api.Row{a, b, c, c, b, a}, []api.Row{a, a, b, b, b, c}, false},
		{[]api.Row{{text("a")}}, []api.Row{{blob("a")}}, false},
		{[]api.Row{{no}}, []api.Row{{num(0)}}, false},
		{[]api.Row{{text("'")}}, []api.Row{{text("''")}}, false},
		{[]api.Row{{text("a, b")}}, []api.Row{{text("a"), text("b")}}, false},
		{[]api.Row{{wrong}, {null}}, []api.Row{{null}, {wrong}}, true},
		{[]api.Row{{wrong}}, []api.Row{{{Kind: api.Bool, I: 2}}}, false},
		{[]api.Row{{wrong}}, []api.Row{{yes}}, false},
		{[]api.Row{make(api.Row, 65)}, []api.Row{make(api.Row, 66)}, false},
		{[]api.Row{make(api.Row, 66)}, []api.Row{make(api.Row, 66)}, true},
	} {
		if got := value.SameBag(x.a, x.b); got != x.want {
			t.Errorf("%d: got %t", i, got)
		}
	}
}

// P1.2: all pairs of bags of up to four of three rows.
func TestSameBagAll(t *testing.T) {
	some := []api.Row{{num(1)}, {num(1), num(1)}, {num(2)}}
	type bag struct {
		l     []api.Row
		often [3]int
	}
	bags := []bag{{}}
	for from, n := 0, 0; n < 4; n++ {
		end := len(bags)
		for _, x := range bags[from:end] {
			for i, r := range some {
				y := bag{append(append([]api.Row{}, x.l...), r), x.often}
				y.often[i]++
				bags = append(bags, y)
			}
		}
		from = end
	}
	for _, x := range bags {
		for _, y := range bags {
			if got := value.SameBag(x.l, y.l); got != (x.often == y.often) {
				t.Fatalf("%v, %v: got %t", x.l, y.l, got)
			}
		}
	}
}

// P1.4: a bag is the same in any order; and R2: what is handed in stays as it is.
func TestSameBagAnyOrder(t *testing.T) {
	l := many(1000)
	was := copied(l)
	for seed := range uint32(5) {
		other := shuffled(l, seed)
		stood := copied(other)
		if !value.SameBag(l, other) || !value.SameBag(other, l) || !value.SameBag(l, value.Sorted(other)) {
			t.Fatalf("seed %d: not the same", seed)
		}
		if !sameList(l, was) || !sameList(other, stood) {
			t.Fatal("what was handed in was changed")
		}
		other[seed*100] = api.Row{blob("another")}
		if value.SameBag(l, other) || value.SameBag(other, l) {
			t.Fatalf("seed %d: the same, but for one row", seed)
		}
	}
}
