package kind

import (
	"strings"

	"flange/value"
)

// form is how a type is made.
type form int

const (
	formAny form = iota
	formBool
	formInt
	formPoint
	formText
	formList
	formMap
	formTuple
	formObject
	forms
)

// begin is what a form's text begins with; no two begin with the same byte.
func (f form) begin() string {
	return [forms]string{"any", "bool", "int", "point", "text", "list(", "map(", "[", "{"}[f]
}

// end is what stands behind the types in a form's text; 0 of a form without any.
func (f form) end() byte {
	return [forms]byte{formList: ')', formMap: ')', formTuple: ']', formObject: '}'}[f]
}

// holds is the kind of the values that are taken by their parts; Null of a form without types.
func (f form) holds() int {
	switch f {
	case formList, formTuple:
		return value.KindList
	case formMap, formObject:
		return value.KindMap
	}
	return value.KindNull
}

// formOf is the form whose text begins with a byte.
func formOf(c byte) (form, bool) {
	for f := range forms {
		if f.begin()[0] == c {
			return f, true
		}
	}
	return 0, false
}

// write writes a type's text.
func (t *Type) write(b *strings.Builder) {
	b.WriteString(t.form.begin())
	for i := range t.parts {
		if i > 0 {
			b.WriteByte(',')
		}
		if t.form == formObject {
			t.writeName(b, t.names[i])
		}
		t.parts[i].write(b)
	}
	if end := t.form.end(); end != 0 {
		b.WriteByte(end)
	}
}

func (t *Type) writeName(b *strings.Builder, name string) {
	b.WriteString(name)
	if t.fields[name].mayBeUnset {
		b.WriteByte('?')
	}
	b.WriteByte(':')
}

// named is the type of an object's name; nil of none.
func (t *Type) named(name string) *Type {
	f, ok := t.fields[name]
	if !ok {
		return nil
	}
	return &t.parts[f.place]
}

// placed is the type of a List's place; nil of none.
func (t *Type) placed(i int) *Type {
	switch {
	case i < 0:
		return nil
	case t.form == formList:
		return &t.parts[0]
	case t.form == formTuple && i < len(t.parts):
		return &t.parts[i]
	}
	return nil
}

// under is the type of a Map's key; nil of none.
func (t *Type) under(key string) *Type {
	if t.form == formMap {
		return &t.parts[0]
	}
	return t.named(key)
}

// handed is a part as it is handed out: in new memory, so that whoever lays another type there changes nothing here.
func handed(part *Type) (*Type, bool) {
	if part == nil {
		return nil, false
	}
	t := *part
	return &t, true
}

// zeros is the zeros of a tuple's types.
func (t *Type) zeros() []value.Value {
	var l []value.Value
	for i := range t.parts {
		l = append(l, t.parts[i].Zero())
	}
	return l
}

// zerosOf is the zeros of an object's names.
func (t *Type) zerosOf(names []string) []value.Value {
	var l []value.Value
	for _, n := range names {
		l = append(l, t.named(n).Zero())
	}
	return l
}
