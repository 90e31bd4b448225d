// Package message is layer 2: fields as bytes.
package message

import (
	"slices"

	"flange/api"
	"flange/varint"
)

const (
	minTag = 1
	maxTag = 1000
)

// Field is a tag, and a number, or bytes.
type Field struct {
	Tag   int
	Bytes bool
	N     uint64
	B     []byte
}

// Num is a field of a number.
func Num(tag int, n uint64) Field {
	return Field{Tag: tag, N: n}
}

// Blob is a field of bytes.
func Blob(tag int, b []byte) Field {
	return Field{Tag: tag, Bytes: true, B: fresh(b)}
}

// Encode is fields' bytes.
func Encode(l ...Field) ([]byte, api.Errno) {
	// This comes first: of too much the answer is ErrLong, whatever else is wrong.
	if tooMuch(l) {
		return nil, api.ErrLong
	}
	for i, f := range l {
		if !mayStand(l[:i], f) || mixed(f) {
			return nil, api.ErrArg
		}
	}
	var out []byte
	for _, f := range l {
		out = appendField(out, f)
	}
	if len(out) > api.MaxFrame {
		return nil, api.ErrLong
	}
	return out, api.OK
}

// Decode is bytes' fields, and how many; or where the first one begins that is wrong.
func Decode(b []byte) ([]Field, int, api.Errno) {
	if len(b) > api.MaxFrame {
		return nil, 0, api.ErrLong
	}
	var l []Field
	at := 0
	for at < len(b) {
		f, size, e := readField(b[at:])
		if e == api.OK {
			e = next(l, f)
		}
		if e != api.OK {
			return nil, at, e
		}
		l = append(l, f)
		at += size
	}
	return l, len(l), api.OK
}

// Number is the number of a tag.
func Number(l []Field, tag int) (uint64, bool) {
	i := slices.IndexFunc(l, of(tag, false))
	if i < 0 {
		return 0, false
	}
	return l[i].N, true
}

// Many is all bytes of a tag.
func Many(l []Field, tag int) [][]byte {
	fits := of(tag, true)
	var out [][]byte
	for _, f := range l {
		if fits(f) {
			out = append(out, fresh(f.B))
		}
	}
	return out
}

// Bytes is the first bytes of a tag.
func Bytes(l []Field, tag int) ([]byte, bool) {
	i := slices.IndexFunc(l, of(tag, true))
	if i < 0 {
		return nil, false
	}
	return fresh(l[i].B), true
}

// Only tells whether no field has another tag.
func Only(l []Field, tags ...int) bool {
	return !slices.ContainsFunc(l, func(f Field) bool {
		return !slices.Contains(tags, f.Tag)
	})
}

// of is by what the fields of a tag and a kind are looked for.
func of(tag int, bytes bool) func(Field) bool {
	return func(f Field) bool {
		return f.Tag == tag && f.Bytes == bytes
	}
}

// fresh is the same bytes in memory of their own; never nil, so that a field of no bytes isn't taken for none.
func fresh(b []byte) []byte {
	return append([]byte{}, b...)
}

// tooMuch tells whether there are too many fields, or their bytes alone are too many.
func tooMuch(l []Field) bool {
	if len(l) > api.MaxFields {
		return true
	}
	room := api.MaxFrame
	for _, f := range l {
		if len(f.B) > room {
			return true
		}
		room -= len(f.B)
	}
	return false
}

// mayStand tells whether a field may stand behind those ahead of it.
func mayStand(ahead []Field, f Field) bool {
	if f.Tag < minTag || f.Tag > maxTag {
		return false
	}
	if len(ahead) == 0 {
		return true
	}
	last := ahead[len(ahead)-1]
	if f.Tag == last.Tag {
		return f.Bytes && last.Bytes
	}
	return f.Tag > last.Tag
}

// mixed tells whether a field has what only the other kind may have.
func mixed(f Field) bool {
	if f.Bytes {
		return f.N != 0
	}
	return len(f.B) > 0
}

// next is the error of a field that was read behind those ahead of it.
func next(ahead []Field, f Field) api.Errno {
	if !mayStand(ahead, f) {
		return api.ErrArg
	}
	if len(ahead) == api.MaxFields {
		return api.ErrLong
	}
	return api.OK
}

// appendField is bytes, and a field's behind them.
func appendField(out []byte, f Field) []byte {
	key := uint64(f.Tag) * 2
	if !f.Bytes {
		out = append(out, varint.Append(nil, key)...)
		return append(out, varint.Append(nil, f.N)...)
	}
	out = append(out, varint.Append(nil, key+1)...)
	out = append(out, varint.Append(nil, uint64(len(f.B)))...)
	return append(out, f.B...)
}

// readField is the field that bytes begin with, and how many bytes it has, whatever its tag.
func readField(b []byte) (Field, int, api.Errno) {
	key, at, e := varint.Read(b)
	if e != api.OK {
		return Field{}, 0, e
	}
	n, size, e := varint.Read(b[at:])
	if e != api.OK {
		return Field{}, 0, e
	}
	at += size
	tag := int(key / 2)
	if key%2 == 0 {
		return Num(tag, n), at, api.OK
	}
	// Held against what is left as a number without a sign: n may be beyond all ints.
	if n > uint64(len(b)-at) {
		return Field{}, 0, api.ErrShort
	}
	end := at + int(n)
	return Blob(tag, b[at:end]), end, api.OK
}
