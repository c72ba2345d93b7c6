package scalar

import (
	"cmp"

	"boscage/api"
	"boscage/value"
)

// function is one: how many arguments it takes (most below 0: any), and of which Kinds these are (none told: of any, and NULL is a value like others), and what it does.
type function struct {
	name        string
	least, most int
	kinds       kindsOf
	do          func(l ...api.Value) (api.Value, api.Errno)
}

func functions() []function {
	return []function{
		{"coalesce", 1, -1, kindsOf{}, coalesce},
		{"nullif", 2, 2, kindsOf{}, nullif},
		{"abs", 1, 1, kindsOf{ints}, abs},
		{"sign", 1, 1, kindsOf{ints}, sign},
		{"length", 1, 1, kindsOf{bytes}, length},
		{"lower", 1, 1, kindsOf{texts}, lower},
		{"upper", 1, 1, kindsOf{texts}, upper},
		{"trim", 1, 1, kindsOf{texts}, trim},
		{"substr", 3, 3, kindsOf{bytes, ints, ints}, substr},
		{"instr", 2, 2, kindsOf{texts, texts}, instr},
		{"replace", 3, 3, kindsOf{texts, texts, texts}, replace},
	}
}

func find(name string) (function, bool) {
	for _, f := range functions() {
		if f.name == name {
			return f, true
		}
	}
	return function{}, false
}

func (f function) takes(n int) bool { return n >= f.least && (n <= f.most || f.most < 0) }

// Arity tells how many arguments a function takes.
func Arity(name string) (int, int, bool) {
	f, known := find(name)
	return f.least, f.most, known
}

// Call calls a function.
func Call(name string, l ...api.Value) (api.Value, api.Errno) {
	f, known := find(name)
	if !known || !f.takes(len(l)) || wrong(l...) {
		return api.Value{}, api.ErrArg
	}
	if f.kinds != (kindsOf{}) {
		if null, e := strict(f.kinds, l...); null || e != api.OK {
			return api.Value{}, e
		}
	}
	return f.do(l...)
}

func coalesce(l ...api.Value) (api.Value, api.Errno) {
	for _, v := range l {
		if v.Kind != api.Null {
			return v, api.OK
		}
	}
	return api.Value{}, api.OK
}

func nullif(l ...api.Value) (api.Value, api.Errno) {
	if value.Same(l[0], l[1]) {
		return api.Value{}, api.OK
	}
	return l[0], api.OK
}

func abs(l ...api.Value) (api.Value, api.Errno) {
	if l[0].I < 0 {
		return Neg(l[0])
	}
	return l[0], api.OK
}

func sign(l ...api.Value) (api.Value, api.Errno) {
	return number(int64(cmp.Compare(l[0].I, 0))), api.OK
}

func length(l ...api.Value) (api.Value, api.Errno) {
	return number(int64(len(l[0].S))), api.OK
}
