package coerce

import (
	"flange/api"
	"flange/kind"
	"flange/text"
	"flange/value"
)

// longest is how many bytes an Int's text has at most: longer ones needn't be read.
const longest = len("-9223372036854775808")

// bringer brings what can be brought, and leaves all else as it is.
type bringer struct {
	// What has become of Lists and Maps, by their types' texts. One may stand in another in many places, and this one again, so that going through all of them might not come to an end. (Two of them are equal if they are one in memory.)
	made map[string]map[value.Value]value.Value
}

// bring is a value, brought to a type; one of no type as it is.
func (b *bringer) bring(t *kind.Type, v value.Value) value.Value {
	if t.Holds() != value.KindNull {
		return b.whole(t, v)
	}
	switch want := t.Zero().Kind(); want {
	case value.KindBool, value.KindInt:
		return read(v, want)
	case value.KindPoint:
		return placed(v)
	case value.KindText:
		return told(v)
	}
	return v
}

// whole is a value, brought to a type with others.
func (b *bringer) whole(t *kind.Type, v value.Value) value.Value {
	if v.Kind() != t.Holds() {
		return v
	}
	name := t.Print()
	if b.made[name] == nil {
		b.made[name] = make(map[value.Value]value.Value)
	}
	x, ok := b.made[name][v]
	if !ok {
		x = b.inside(t, v)
		b.made[name][v] = x
	}
	return x
}

// inside is a List or a Map, each of whose values is brought to its type.
func (b *bringer) inside(t *kind.Type, v value.Value) value.Value {
	items := v.Items()
	if v.Kind() == value.KindList {
		for i, x := range items {
			part, _ := t.Place(i)
			items[i] = b.bring(part, x)
		}
		return value.List(items...)
	}
	keys := v.Keys()
	for i, x := range items {
		part, _ := t.Under(keys[i])
		items[i] = b.bring(part, x)
	}
	m, _ := value.Map(keys, items)
	return m
}

// read is the value of that kind whose text a Text is.
func read(v value.Value, want int) value.Value {
	s, ok := v.Text()
	if !ok || len(s) > longest {
		return v
	}
	x, _, e := text.Read(s)
	if e != api.OK || x.Kind() != want {
		return v
	}
	return x
}

// placed is an Int as a Point.
func placed(v value.Value) value.Value {
	n, ok := v.Int()
	p, e := value.Point(n, 0)
	if !ok || e != api.OK {
		return v
	}
	return p
}

// told is an Int, or a Bool, as a Text.
func told(v value.Value) value.Value {
	if v.Kind() != value.KindInt && v.Kind() != value.KindBool {
		return v
	}
	return value.Text(text.Write(v))
}
