package text

import (
	"strconv"
	"strings"

	"flange/api"
	"flange/value"
)

// place is where a reader stands.
type place struct {
	text string
	at   int
}

func (p *place) ended() bool {
	return p.at == len(p.text)
}

// next is the byte that stands there; at the end 0, which stands in no text.
func (p *place) next() byte {
	if p.ended() {
		return 0
	}
	return p.text[p.at]
}

// take goes behind a byte, if it stands there.
func (p *place) take(c byte) bool {
	if p.next() != c {
		return false
	}
	p.at++
	return true
}

// reader reads values from the left; with an error it stands where that is told.
type reader struct {
	place
	deep int
}

// back is an error that is told where something began.
func (r *reader) back(began int, e api.Errno) api.Errno {
	r.at = began
	return e
}

func (r *reader) rise() {
	r.deep--
}

// value reads a value.
func (r *reader) value() (value.Value, api.Errno) {
	r.deep++
	defer r.rise()
	// This comes first: what can't begin a value there is told as too deep.
	if r.deep > api.MaxDeep {
		return value.Value{}, api.ErrLong
	}
	switch c := r.next(); {
	case c == 'n':
		return r.word("null", value.Unset())
	case c == '?':
		return r.word("?", value.Later())
	case c == 'f':
		return r.word("false", value.Of(false))
	case c == 't':
		return r.word("true", value.Of(true))
	case c == '-' || isDigit(c):
		return r.integer()
	case c == '(':
		return r.point()
	case c == '"':
		return r.textValue()
	case c == '[':
		return r.list()
	case c == '{':
		return r.table()
	}
	return value.Value{}, api.ErrForm
}

// word reads a value that is told by a word.
func (r *reader) word(w string, v value.Value) (value.Value, api.Errno) {
	for i := range len(w) {
		if !r.take(w[i]) {
			return value.Value{}, api.ErrForm
		}
	}
	return v, api.OK
}

func (r *reader) integer() (value.Value, api.Errno) {
	n, e := r.number()
	if e != api.OK {
		return value.Value{}, e
	}
	return value.Int(n), api.OK
}

// number reads an int's digits.
func (r *reader) number() (int, api.Errno) {
	began := r.at
	if r.take('-') && r.next() == '0' || !isDigit(r.next()) {
		return 0, api.ErrForm
	}
	if !r.take('0') {
		r.digits()
	}
	n, err := strconv.Atoi(r.text[began:r.at])
	if err != nil {
		return 0, r.back(began, api.ErrRange)
	}
	return n, api.OK
}

func (r *reader) digits() {
	for isDigit(r.next()) {
		r.at++
	}
}

func (r *reader) point() (value.Value, api.Errno) {
	began := r.at
	re, e := r.part('(')
	if e != api.OK {
		return value.Value{}, e
	}
	im, e := r.part(',')
	if e != api.OK {
		return value.Value{}, e
	}
	if !r.take(')') {
		return value.Value{}, api.ErrForm
	}
	p, e := value.Point(re, im)
	if e != api.OK {
		return value.Value{}, r.back(began, e)
	}
	return p, api.OK
}

// part reads a point's part, and the byte ahead of it.
func (r *reader) part(ahead byte) (int, api.Errno) {
	if !r.take(ahead) {
		return 0, api.ErrForm
	}
	return r.number()
}

func (r *reader) list() (value.Value, api.Errno) {
	r.at++
	var items []value.Value
	for more := !r.take(']'); more; {
		v, e := r.value()
		if e == api.OK {
			more, e = r.goesOn(']')
		}
		if e != api.OK {
			return value.Value{}, e
		}
		items = append(items, v)
	}
	return value.List(items...), api.OK
}

func (r *reader) table() (value.Value, api.Errno) {
	r.at++
	var keys []string
	var items []value.Value
	for more := !r.take('}'); more; {
		k, e := r.key(keys)
		if e != api.OK {
			return value.Value{}, e
		}
		v, e := r.value()
		if e == api.OK {
			more, e = r.goesOn('}')
		}
		if e != api.OK {
			return value.Value{}, e
		}
		keys, items = append(keys, k), append(items, v)
	}
	return value.Map(keys, items)
}

// goesOn tells whether another item comes; none does behind the byte that ends all.
func (r *reader) goesOn(end byte) (bool, api.Errno) {
	if r.take(end) {
		return false, api.OK
	}
	if !r.take(',') {
		return false, api.ErrForm
	}
	return true, api.OK
}

// key reads a key that comes behind those ahead of it, and its colon.
func (r *reader) key(ahead []string) (string, api.Errno) {
	began := r.at
	k, e := r.quoted()
	if e != api.OK {
		return "", e
	}
	if len(ahead) > 0 {
		switch strings.Compare(k, ahead[len(ahead)-1]) {
		case 0:
			return "", r.back(began, api.ErrTwice)
		case -1:
			return "", r.back(began, api.ErrForm)
		}
	}
	if !r.take(':') {
		return "", api.ErrForm
	}
	return k, api.OK
}

func (r *reader) textValue() (value.Value, api.Errno) {
	s, e := r.quoted()
	if e != api.OK {
		return value.Value{}, e
	}
	return value.Text(s), api.OK
}

// quoted reads the bytes of a Text, or a key.
func (r *reader) quoted() (string, api.Errno) {
	if !r.take('"') {
		return "", api.ErrForm
	}
	var b []byte
	for !r.take('"') {
		c, e := r.oneByte()
		if e != api.OK {
			return "", e
		}
		b = append(b, c)
	}
	return string(b), api.OK
}

// oneByte reads a byte as it stands between quotes.
func (r *reader) oneByte() (byte, api.Errno) {
	if r.take('\\') {
		return r.escaped()
	}
	c := r.next()
	if !isPlain(c) {
		return 0, api.ErrForm
	}
	r.at++
	return c, api.OK
}

// escaped reads what stands behind a \.
func (r *reader) escaped() (byte, api.Errno) {
	for _, c := range []byte{'"', '\\'} {
		if r.take(c) {
			return c, api.OK
		}
	}
	if !r.take('x') {
		return 0, api.ErrForm
	}
	return r.hex()
}

// hex reads two hex digits; of a byte that needs none the first digit by which that shows can't stand there.
func (r *reader) hex() (byte, api.Errno) {
	high := strings.IndexByte(hexDigits, r.next())
	if high < 0 || allPlain(byte(high)) {
		return 0, api.ErrForm
	}
	r.at++
	low := strings.IndexByte(hexDigits, r.next())
	if low < 0 {
		return 0, api.ErrForm
	}
	c := byte(high<<4 | low)
	if isPlain(c) {
		return 0, api.ErrForm
	}
	r.at++
	return c, api.OK
}

// allPlain tells whether no byte of that first hex digit needs any.
func allPlain(high byte) bool {
	return isPlain(high<<4) && isPlain(high<<4|15)
}

func isDigit(c byte) bool {
	return c >= '0' && c <= '9'
}
