package kind

import (
	"strings"

	"flange/api"
)

// place is where a reader stands.
type place struct {
	text string
	at   int
}

func (p *place) ended() bool {
	return p.at == len(p.text)
}

// next is the byte that stands there; at the end 0, which stands in no text.
func (p *place) next() byte {
	if p.ended() {
		return 0
	}
	return p.text[p.at]
}

// take goes behind a byte, if it stands there.
func (p *place) take(c byte) bool {
	if p.next() != c {
		return false
	}
	p.at++
	return true
}

// reader reads types from the left; with an error it stands where that is told.
type reader struct {
	place
	// deep is how many types aren't ended.
	deep int
}

// back is an error that is told where something began.
func (r *reader) back(began int, e api.Errno) api.Errno {
	r.at = began
	return e
}

// oneType reads a type that stands behind so many others. What can't begin a type is told ahead of there being no room for one.
func (r *reader) oneType(ahead int) (Type, api.Errno) {
	f, ok := formOf(r.next())
	if !ok {
		return Type{}, api.ErrForm
	}
	if ahead == api.MaxAttrs || r.deep == api.MaxDeep {
		return Type{}, api.ErrLong
	}
	if !r.word(f.begin()) {
		return Type{}, api.ErrForm
	}
	t := Type{form: f}
	r.deep++
	e := r.inside(&t)
	r.deep--
	if e != api.OK {
		return Type{}, e
	}
	return t, api.OK
}

// word goes behind a word; or to the first byte that isn't of it.
func (r *reader) word(w string) bool {
	for i := range len(w) {
		if !r.take(w[i]) {
			return false
		}
	}
	return true
}

// inside reads the types that stand in one, and what ends them.
func (r *reader) inside(t *Type) api.Errno {
	switch t.form {
	case formList, formMap:
		return r.only(t)
	case formTuple, formObject:
		return r.several(t)
	}
	return api.OK
}

// only reads the type that stands in a list, or a map.
func (r *reader) only(t *Type) api.Errno {
	part, e := r.oneType(0)
	if e != api.OK {
		return e
	}
	if !r.take(t.form.end()) {
		return api.ErrForm
	}
	t.parts = []Type{part}
	return api.OK
}

// several reads the types that stand in a tuple, or an object.
func (r *reader) several(t *Type) api.Errno {
	for more := !r.take(t.form.end()); more; {
		e := r.label(t)
		if e != api.OK {
			return e
		}
		part, e := r.oneType(len(t.parts))
		if e == api.OK {
			more, e = r.goesOn(t.form.end())
		}
		if e != api.OK {
			return e
		}
		t.parts = append(t.parts, part)
	}
	return api.OK
}

// goesOn tells whether another type comes; none does behind the byte that ends all.
func (r *reader) goesOn(end byte) (bool, api.Errno) {
	if r.take(end) {
		return false, api.OK
	}
	if !r.take(',') {
		return false, api.ErrForm
	}
	return true, api.OK
}

// label reads what stands ahead of a type: of an object's its name, and a colon.
func (r *reader) label(t *Type) api.Errno {
	if t.form != formObject {
		return api.OK
	}
	n, e := r.name(t.names)
	if e != api.OK {
		return e
	}
	f := field{place: len(t.names), mayBeUnset: r.take('?')}
	if !r.take(':') {
		return api.ErrForm
	}
	if t.fields == nil {
		t.fields = make(map[string]field)
	}
	t.fields[n] = f
	t.names = append(t.names, n)
	return api.OK
}

// name reads a name that stands behind others.
func (r *reader) name(ahead []string) (string, api.Errno) {
	began := r.at
	if !isLetter(r.next()) {
		return "", api.ErrForm
	}
	if len(ahead) == api.MaxAttrs {
		return "", api.ErrLong
	}
	for isLetter(r.next()) || isDigit(r.next()) {
		r.at++
	}
	n := strings.Clone(r.text[began:r.at])
	if e := mayFollow(n, ahead); e != api.OK {
		return "", r.back(began, e)
	}
	return n, api.OK
}

// mayFollow tells what is wrong with a name behind others.
func mayFollow(n string, ahead []string) api.Errno {
	if len(n) > api.MaxName {
		return api.ErrName
	}
	if len(ahead) == 0 {
		return api.OK
	}
	switch strings.Compare(n, ahead[len(ahead)-1]) {
	case 0:
		return api.ErrTwice
	case -1:
		return api.ErrForm
	}
	return api.OK
}

func isLetter(c byte) bool {
	return c >= 'a' && c <= 'z'
}

func isDigit(c byte) bool {
	return c >= '0' && c <= '9'
}
