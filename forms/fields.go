package forms

import (
	"nuncio/api"
	"nuncio/wire"
)

const longestName = 16

// fields are what a thing's fields are written to, or read from. One function goes through a thing for both, so that what is read can't be other than what is written. What is written may be the caller's own: nothing is stored there.
type fields struct {
	to   *wire.Writer
	from *wire.Reader // nil where fields are written
}

// encoded are a thing's bytes. through panics if the thing is not right: the panic ends here.
func encoded[T any](thing *T, through func(fields, *T)) (b []byte, e api.Errno) {
	defer func() {
		if recover() != nil {
			b, e = nil, api.ErrForm
		}
	}()
	w := wire.NewWriter()
	through(fields{to: w}, thing)
	b, e = w.Bytes()
	insist(e == api.OK)
	return b, api.OK
}

// decoded is the thing that bytes are, all of them. through panics if there is none: the panic ends here.
func decoded[T any](b []byte, through func(fields, *T)) (thing T, e api.Errno) {
	defer func() {
		if recover() != nil {
			var nothing T
			thing, e = nothing, api.ErrForm
		}
	}()
	r := wire.NewReader(b)
	through(fields{from: r}, &thing)
	insist(r.End() == api.OK)
	return thing, api.OK
}

// insist gives a thing up that is not right.
func insist(right bool) {
	if !right {
		panic(api.ErrForm)
	}
}

func (f fields) writes() bool { return f.from == nil }

func word(f fields, n *uint64) {
	if f.writes() {
		f.to.Word(*n)
		return
	}
	*n = f.from.Word()
}

func hash(f fields, h *api.Hash) {
	if f.writes() {
		f.to.Hash(*h)
		return
	}
	*h = f.from.Hash()
}

// number is a Number of any kind of numbers, from least to most.
func number[N ~int](f fields, n *N, least, most N) {
	if f.writes() {
		f.to.Number(int(*n))
	} else {
		*n = N(f.from.Number())
	}
	insist(*n >= least && *n <= most)
}

// text has at most so many bytes.
func text(f fields, s *string, most int) {
	if f.writes() {
		f.to.Text(*s)
	} else {
		*s = f.from.Text()
	}
	insist(len(*s) <= most)
}

func name(f fields, s *string) {
	text(f, s, longestName)
	insist(len(*s) > 0)
	for _, c := range []byte(*s) {
		insist(c >= 'a' && c <= 'z')
	}
}

// begin is a thing's own number.
func begin(f fields, is int) {
	n := is
	number(f, &n, is, is)
}

// list is how many elements there are, at most so many, and each of them.
func list[T any](f fields, l *[]T, most int, each func(fields, *T)) {
	n := len(*l)
	number(f, &n, 0, most)
	if !f.writes() {
		*l = make([]T, n)
	}
	for i := range *l {
		each(f, &(*l)[i])
	}
}
