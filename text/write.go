package text

import (
	"strconv"
	"strings"

	"flange/value"
)

const (
	firstPlain = 32
	lastPlain  = 126
	hexDigits  = "0123456789abcdef"
)

// group is a List or a Map whose text isn't ended.
type group struct {
	keys  []string
	items []value.Value
	next  int
	close byte
}

// writer writes texts until there are more bytes than its limit: a value that stands in others in many places may have a text that is far longer than anybody asks for.
type writer struct {
	strings.Builder
	limit int
	open  []group
}

func (w *writer) full() bool {
	return w.Len() > w.limit
}

// all writes a value. Not by recursion: values may stand in one another deeper than a stack has room.
func (w *writer) all(v value.Value) {
	w.one(v)
	for len(w.open) > 0 && !w.full() {
		g := &w.open[len(w.open)-1]
		if g.next == len(g.items) {
			w.WriteByte(g.close)
			w.open = w.open[:len(w.open)-1]
			continue
		}
		w.ahead(g)
		item := g.items[g.next]
		g.next++
		w.one(item)
	}
}

// ahead writes what stands ahead of a group's next item.
func (w *writer) ahead(g *group) {
	if g.next > 0 {
		w.WriteByte(',')
	}
	if g.next < len(g.keys) {
		w.quote(g.keys[g.next])
		w.WriteByte(':')
	}
}

// one writes a value; those that stand in it wait.
func (w *writer) one(v value.Value) {
	switch v.Kind() {
	case value.KindNull:
		w.WriteString("null")
	case value.KindUnknown:
		w.WriteByte('?')
	case value.KindBool:
		b, _ := v.Bool()
		w.WriteString(strconv.FormatBool(b))
	case value.KindInt:
		n, _ := v.Int()
		w.WriteString(strconv.Itoa(n))
	case value.KindPoint:
		re, im, _ := v.Point()
		w.WriteString("(" + strconv.Itoa(re) + "," + strconv.Itoa(im) + ")")
	case value.KindText:
		s, _ := v.Text()
		w.quote(s)
	case value.KindList:
		w.begin('[', group{items: v.Items(), close: ']'})
	case value.KindMap:
		w.begin('{', group{keys: v.Keys(), items: v.Items(), close: '}'})
	}
}

func (w *writer) begin(open byte, g group) {
	w.WriteByte(open)
	w.open = append(w.open, g)
}

// quote writes a Text's text.
func (w *writer) quote(s string) {
	w.WriteByte('"')
	for i := range len(s) {
		w.escape(s[i])
	}
	w.WriteByte('"')
}

// escape writes a byte of a Text.
func (w *writer) escape(c byte) {
	switch {
	case c == '"' || c == '\\':
		w.WriteByte('\\')
		w.WriteByte(c)
	case isPlain(c):
		w.WriteByte(c)
	default:
		w.WriteString(`\x`)
		w.WriteByte(hexDigits[c>>4])
		w.WriteByte(hexDigits[c&15])
	}
}

// isPlain tells whether a byte needs no hex digits.
func isPlain(c byte) bool {
	return c >= firstPlain && c <= lastPlain
}
