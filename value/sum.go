package value

import (
	"flange/api"
)

// Sum is the sum of two values.
func Sum(a, b Value) (Value, api.Errno) {
	x, y := a.Kind(), b.Kind()
	switch {
	case x == KindNull && y == KindNull:
		return Unset(), api.OK
	case x == KindInt && y == KindInt:
		return sumOfInts(a, b)
	case x == KindText && y == KindText:
		return sumOfTexts(a, b), api.OK
	case isNumber(x) && isNumber(y):
		return sumOfPoints(a, b)
	}
	return Value{}, api.ErrType
}

func isNumber(kind int) bool {
	return kind == KindInt || kind == KindPoint
}

func sumOfInts(a, b Value) (Value, api.Errno) {
	m, _ := a.Int()
	n, _ := b.Int()
	sum := m + n
	if n > 0 && sum < m || n < 0 && sum > m {
		return Value{}, api.ErrRange
	}
	return Int(sum), api.OK
}

func sumOfTexts(a, b Value) Value {
	s, _ := a.Text()
	t, _ := b.Text()
	return Text(s + t)
}

// sumOfPoints is a sum of which one at least is a Point.
func sumOfPoints(a, b Value) (Value, api.Errno) {
	p, e := toPoint(a)
	if e != api.OK {
		return Value{}, e
	}
	q, e := toPoint(b)
	if e != api.OK {
		return Value{}, e
	}
	// As ints: a sum of floats next to 2^53 is rounded, and what is beyond might not show.
	pRe, pIm, _ := p.Point()
	qRe, qIm, _ := q.Point()
	return Point(pRe+qRe, pIm+qIm)
}

// toPoint is a Point as it is, and an Int as one.
func toPoint(v Value) (Value, api.Errno) {
	if n, ok := v.Int(); ok {
		return Point(n, 0)
	}
	return v, api.OK
}
