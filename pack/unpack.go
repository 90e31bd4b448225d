package pack

import (
	"flange/message"
	"flange/value"
	"flange/varint"
)

// valueOf is the only value that bytes may be of. Whether they are isn't asked: what is wrong with them, or has no meaning, is passed over, and shows when they are held against the value's own bytes.
func valueOf(b []byte) value.Value {
	l, _, _ := message.Decode(b)
	switch number(l, tagKind) {
	case value.KindUnknown:
		return value.Later()
	case value.KindBool:
		return value.Of(number(l, tagNumber) == 1)
	case value.KindInt:
		return value.Int(varint.Zag(number(l, tagNumber)))
	case value.KindPoint:
		v, _ := value.Point(varint.Zag(number(l, tagNumber)), varint.Zag(number(l, tagSecond)))
		return v
	case value.KindText:
		s, _ := message.Bytes(l, tagText)
		return value.Text(string(s))
	case value.KindList:
		return value.List(valuesOf(l, tagItem)...)
	case value.KindMap:
		v, _ := value.Map(textsOf(l, tagKey), valuesOf(l, tagValue))
		return v
	}
	return value.Unset()
}

// number is the number of a tag; 0 without one.
func number(l []message.Field, tag int) uint64 {
	n, _ := message.Number(l, tag)
	return n
}

// textsOf is all bytes of a tag, as texts.
func textsOf(l []message.Field, tag int) []string {
	var out []string
	for _, b := range message.Many(l, tag) {
		out = append(out, string(b))
	}
	return out
}

// valuesOf is the values that all bytes of a tag may be of.
func valuesOf(l []message.Field, tag int) []value.Value {
	var out []value.Value
	for _, b := range message.Many(l, tag) {
		out = append(out, valueOf(b))
	}
	return out
}
