package iter

import (
	"slices"
	"strings"

	"boscage/api"
	"boscage/rows"
	"boscage/value"
)

// nothing stands for an Iter that is none: it works on none, and fails.
type nothing struct{ sources }

func (nothing) next() (api.Row, bool, api.Errno) { return nil, false, api.ErrArg }

type list struct {
	rows  []api.Row
	place int
	gave  int
}

func (l *list) open() int {
	l.place = 0
	return l.gave
}

func (l *list) next() (api.Row, bool, api.Errno) {
	if l.place == len(l.rows) {
		return nil, false, api.OK
	}
	r := slices.Clone(l.rows[l.place])
	l.place++
	l.gave++
	return r, true, api.OK
}

func (l *list) close() {}

func (l *list) given() int { return l.gave }

type filter struct {
	*source
	e api.Expr
}

func (f *filter) next() (api.Row, bool, api.Errno) {
	for {
		r, is, err := f.source.next()
		if !is {
			return nil, false, err
		}
		is, err = rows.Truth(f.e, r)
		if err != api.OK {
			return nil, false, err
		}
		if is {
			return r, true, api.OK
		}
	}
}

type project struct {
	*source
	es []api.Expr
}

func (p *project) next() (api.Row, bool, api.Errno) {
	r, is, err := p.source.next()
	if !is {
		return nil, false, err
	}
	l, err := rows.Project([]api.Row{r}, p.es)
	if err != api.OK {
		return nil, false, err
	}
	return l[0], true, api.OK
}

// limit has yet so many rows to let go, and then so many to give, where left is not below 0.
type limit struct {
	*source
	most, off  int64
	left, away int64
}

func (l *limit) open() int {
	l.left, l.away = l.most, l.off
	return l.source.open()
}

func (l *limit) next() (api.Row, bool, api.Errno) {
	if l.left == 0 {
		return nil, false, api.OK
	}
	for ; l.away > 0; l.away-- {
		if _, is, err := l.source.next(); !is {
			return nil, false, err
		}
	}
	if l.left > 0 {
		l.left--
	}
	return l.source.next()
}

type distinct struct {
	*source
	seen map[string]struct{}
}

func (d *distinct) open() int {
	d.seen = map[string]struct{}{}
	return d.source.open()
}

func (d *distinct) next() (api.Row, bool, api.Errno) {
	for {
		r, is, err := d.source.next()
		if !is {
			return nil, false, err
		}
		s := text(r)
		if _, ok := d.seen[s]; !ok {
			d.seen[s] = struct{}{}
			return r, true, api.OK
		}
	}
}

func (d *distinct) close() {
	d.seen = nil
	d.source.close()
}

// text tells rows apart. (value.RowText does as well, but not those of more than 64 values.)
func text(r api.Row) string {
	var b strings.Builder
	for _, v := range r {
		s, _ := value.Text(v)
		b.WriteString(s)
		b.WriteByte(',')
	}
	return b.String()
}

type then struct {
	sources
	place int // of the one that is asked
}

func (t *then) open() int {
	t.place = 0
	return t.sources.open()
}

func (t *then) next() (api.Row, bool, api.Errno) {
	for ; t.place < len(t.sources); t.place++ {
		r, is, err := t.sources[t.place].next()
		if is || err != api.OK {
			return r, is, err
		}
	}
	return nil, false, api.OK
}
