package pack

import (
	"flange/api"
	"flange/message"
	"flange/value"
	"flange/varint"
)

// fewestBytes is how many bytes every value has at least: those of its kind.
const fewestBytes = 2

// fault is the first error that came up.
type fault struct {
	errno api.Errno
}

func (f *fault) failed() bool {
	return f.errno != api.OK
}

func (f *fault) fail(e api.Errno) {
	if !f.failed() {
		f.errno = e
	}
}

// packer makes values' bytes.
type packer struct {
	fault
}

// tooMany tells whether a value has more within it than any message has room for. This is asked ahead of packing: one that stands in others in many places may be far more than could ever be gone through.
func tooMany(v value.Value) bool {
	return v.Size() > api.MaxFrame/fewestBytes
}

// bytes is a value's bytes, if nothing failed.
func (p *packer) bytes(v value.Value) []byte {
	b, e := message.Encode(p.fields(v)...)
	p.fail(e)
	return b
}

// fields is a value's message.
func (p *packer) fields(v value.Value) []message.Field {
	l := []message.Field{message.Num(tagKind, uint64(v.Kind()))}
	switch v.Kind() {
	case value.KindBool:
		b, _ := v.Bool()
		return append(l, message.Num(tagNumber, bit(b)))
	case value.KindInt:
		n, _ := v.Int()
		return append(l, message.Num(tagNumber, varint.Zig(n)))
	case value.KindPoint:
		re, im, _ := v.Point()
		return append(l, message.Num(tagNumber, varint.Zig(re)), message.Num(tagSecond, varint.Zig(im)))
	case value.KindText:
		s, _ := v.Text()
		return append(l, message.Blob(tagText, []byte(s)))
	case value.KindList:
		return p.items(l, tagItem, v)
	case value.KindMap:
		return p.items(keys(l, v), tagValue, v)
	}
	return l
}

// keys is fields, and a Map's keys behind them.
func keys(l []message.Field, v value.Value) []message.Field {
	for _, k := range v.Keys() {
		l = append(l, message.Blob(tagKey, []byte(k)))
	}
	return l
}

// items is fields, and the bytes of the values that stand in one behind them.
func (p *packer) items(l []message.Field, tag int, v value.Value) []message.Field {
	for _, x := range v.Items() {
		l = append(l, message.Blob(tag, p.bytes(x)))
	}
	return l
}

func bit(b bool) uint64 {
	if b {
		return 1
	}
	return 0
}
