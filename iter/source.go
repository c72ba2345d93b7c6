package iter

import "boscage/api"

// operator gives rows, one after the other.
type operator interface {
	// open begins anew, and tells what given does.
	open() int
	// next is asked no more when there was no row, till it begins anew.
	next() (api.Row, bool, api.Errno)
	close()
	// given is how many rows all lists in it have given ever: of these each that works on it knows by itself how many there were when it was opened.
	given() int
}

// source is an operator, and how far it has come.
type source struct {
	operator
	opened bool      // at all
	giving bool      // whether it may be asked for rows
	err    api.Errno // what is told while it may not
	ahead  int       // what was given ahead of its last opening
}

func (s *source) open() int {
	s.opened, s.giving = true, true
	s.ahead = s.operator.open()
	return s.ahead
}

func (s *source) next() (api.Row, bool, api.Errno) {
	if !s.giving {
		return nil, false, s.err
	}
	r, is, err := s.operator.next()
	if !is {
		s.giving, s.err = false, err
	}
	return r, is, err
}

func (s *source) close() {
	s.giving, s.err = false, api.ErrArg
	s.operator.close()
}

func (s *source) pulled() int {
	if !s.opened {
		return 0
	}
	return s.given() - s.ahead
}

// sources are some, of which each is opened and closed when all are.
type sources []*source

func (l sources) open() int {
	sum := 0
	for _, s := range l {
		sum += s.open()
	}
	return sum
}

func (l sources) close() {
	for _, s := range l {
		s.close()
	}
}

func (l sources) given() int {
	sum := 0
	for _, s := range l {
		sum += s.given()
	}
	return sum
}
