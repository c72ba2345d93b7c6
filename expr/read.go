package expr

import (
	"boscage/api"
	"boscage/token"
)

// Parse reads an expression that is a whole text; with an error it tells the place.
func Parse(s string) (api.Expr, int, api.Errno) {
	l, place, err := token.Cut(s)
	if err != api.OK {
		return api.Expr{}, place, err
	}
	e, i, err := At(l, 0)
	if err == api.OK && l[i].Kind != api.TEnd {
		err = api.ErrSyntax
	}
	if err != api.OK {
		return api.Expr{}, l[i].At, err
	}
	return e, 0, api.OK
}

// At reads the longest expression that begins at the token i, and tells the place of the token behind it, or of the one that does not go.
func At(l []api.Token, i int) (e api.Expr, place int, err api.Errno) {
	defer func() {
		switch why := recover().(type) {
		case nil:
		case misplaced:
			e, place, err = api.Expr{}, int(why), api.ErrSyntax
		case tooDeep:
			e, place, err = api.Expr{}, i, api.ErrDeep
		default: // a place outside of the tokens: they have no end, or i is none of theirs
			e, place, err = api.Expr{}, 0, api.ErrArg
		}
	}()
	r := reader{tokens: l, at: i}
	e = r.line(lineOr)
	if r.deep {
		panic(tooDeep{})
	}
	return e, r.at, api.OK
}

// Why reading gives up.
type (
	misplaced int // the place of the token that does not go
	tooDeep   struct{}
)

// reader reads tokens from one place on.
type reader struct {
	tokens []api.Token
	at     int
	deep   bool // whether something was too deep: it is told only if all the rest goes
}

// takes steps over the mark, if it is there.
func (r *reader) takes(kind int, mark string) bool {
	t := r.tokens[r.at]
	if t.Kind != kind || t.S != mark {
		return false
	}
	r.at++
	return true
}

// want steps over the one of the marks that must be there.
func (r *reader) want(kind int, marks ...string) string {
	for _, mark := range marks {
		if r.takes(kind, mark) {
			return mark
		}
	}
	panic(misplaced(r.at))
}

func (r *reader) made(op string, l ...api.Expr) api.Expr {
	return r.kept(api.Expr{Op: op, L: l})
}

// kept lets go of what is too deep, and of all behind it: that is read for its errors alone, however deep it goes.
func (r *reader) kept(e api.Expr) api.Expr {
	r.deep = r.deep || Deep(e) > api.MaxDeep
	if r.deep {
		return api.Expr{}
	}
	return e
}
