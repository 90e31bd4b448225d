package message_test

import (
	"bytes"
	"math"
	"slices"
	"testing"

	"flange/api"
	"flange/message"
	"flange/varint"
)

func sameField(a, b message.Field) bool {
	return a.Tag == b.Tag && a.Bytes == b.Bytes && a.N == b.N && bytes.Equal(a.B, b.B)
}

func sameFields(a, b []message.Field) bool {
	return slices.EqualFunc(a, b, sameField)
}

// wantBoth: these fields have these bytes, and these bytes are of these fields.
func wantBoth(t *testing.T, b []byte, l ...message.Field) {
	t.Helper()
	if got, e := message.Encode(l...); !bytes.Equal(got, b) || e != api.OK {
		t.Errorf("Encode(%v): %v, %d, not %v", l, got, e, b)
	}
	if got, n, e := message.Decode(b); !sameFields(got, l) || n != len(l) || e != api.OK {
		t.Errorf("Decode(%v): %v, %d, %d, not %v", b, got, n, e, l)
	}
}

func TestBothWays(t *testing.T) {
	wantBoth(t, nil)
	wantBoth(t, []byte{2, 5}, message.Num(1, 5))
	wantBoth(t, []byte{2, 0}, message.Num(1, 0))
	wantBoth(t, []byte{3, 0}, message.Blob(1, nil))
	wantBoth(t, []byte{208, 15, 172, 2}, message.Num(1000, 300))
	wantBoth(t, []byte{209, 15, 1, 7}, message.Blob(1000, []byte{7}))
	wantBoth(t, []byte{2, 255, 255, 255, 255, 255, 255, 255, 255, 255, 1}, message.Num(1, math.MaxUint64))
	wantBoth(t, []byte("\x02\xac\x02\x05\x02ab\x05\x00\x05\x01c\x06\x00"), message.Num(1, 300),
		message.Blob(2, []byte("ab")), message.Blob(2, nil), message.Blob(2, []byte("c")), message.Num(3, 0))
	wantBoth(t, append([]byte{3, 253, 31}, make([]byte, 4093)...), message.Blob(1, make([]byte, 4093)))
}

func TestMakers(t *testing.T) {
	if f := message.Num(-3, 9); f.Tag != -3 || f.Bytes || f.N != 9 || len(f.B) != 0 {
		t.Errorf("Num: %v", f)
	}
	if f := message.Blob(5000, []byte("ab")); f.Tag != 5000 || !f.Bytes || f.N != 0 || string(f.B) != "ab" {
		t.Errorf("Blob: %v", f)
	}
	if f := message.Blob(1, nil); !f.Bytes || len(f.B) != 0 {
		t.Errorf("Blob of nothing: %v", f)
	}
}

// numbers is that many fields of tags from 1 on, of 0.
func numbers(n int) []message.Field {
	var l []message.Field
	for i := range n {
		l = append(l, message.Num(i+1, 0))
	}
	return l
}

func wantEncode(t *testing.T, what string, want api.Errno, l ...message.Field) {
	t.Helper()
	b, e := message.Encode(l...)
	if e != want || e != api.OK && len(b) != 0 {
		t.Errorf("Encode of %s: %d bytes, %d, not %d", what, len(b), e, want)
	}
}

func TestEncodeLong(t *testing.T) {
	half := make([]byte, 2048)
	wantEncode(t, "64 fields", api.OK, numbers(64)...)
	wantEncode(t, "65 fields", api.ErrLong, numbers(65)...)
	wantEncode(t, "65 fields of no tag", api.ErrLong, make([]message.Field, 65)...)
	wantEncode(t, "4096 bytes in all", api.OK, message.Blob(1, make([]byte, 4093)))
	wantEncode(t, "4097 bytes in all", api.ErrLong, message.Blob(1, make([]byte, 4094)))
	wantEncode(t, "4096 bytes in all, of two", api.OK, message.Blob(1, make([]byte, 4091)), message.Num(2, 1))
	wantEncode(t, "4097 bytes in all, of two", api.ErrLong, message.Blob(1, make([]byte, 4091)), message.Num(2, 128))
	wantEncode(t, "4096 bytes alone", api.ErrLong, message.Blob(1, half), message.Blob(1, half))
}

// TestEncodeFirstError: fields' bytes alone come ahead of what is wrong with fields, the bytes in all behind it.
func TestEncodeFirstError(t *testing.T) {
	half, beyond := make([]byte, 2048), make([]byte, 2049)
	wantEncode(t, "4096 bytes alone of no tag", api.ErrArg, message.Blob(0, make([]byte, 4096)))
	wantEncode(t, "4097 bytes alone of no tag", api.ErrLong, message.Blob(0, make([]byte, 4097)))
	wantEncode(t, "4096 bytes alone, falling", api.ErrArg, message.Blob(2, half), message.Blob(1, half))
	wantEncode(t, "4097 bytes alone, falling", api.ErrLong, message.Blob(2, half), message.Blob(1, beyond))
	wantEncode(t, "a number of 4096 bytes", api.ErrArg, message.Field{Tag: 1, B: make([]byte, 4096)})
	wantEncode(t, "a number of 4097 bytes", api.ErrLong, message.Field{Tag: 1, B: make([]byte, 4097)})
}

func TestEncodeArg(t *testing.T) {
	for _, tag := range []int{0, -1, 1001, math.MinInt, math.MaxInt} {
		wantEncode(t, "a number's tag beyond", api.ErrArg, message.Num(tag, 1))
		wantEncode(t, "bytes' tag beyond", api.ErrArg, message.Blob(tag, []byte{1}))
		wantEncode(t, "a last tag beyond", api.ErrArg, message.Num(1, 1), message.Num(tag, 1))
	}
	num, blob := message.Num(5, 1), message.Blob(5, []byte{1})
	wantEncode(t, "a number twice", api.ErrArg, num, num)
	wantEncode(t, "a number, and bytes", api.ErrArg, num, blob)
	wantEncode(t, "bytes, and a number", api.ErrArg, blob, num)
	wantEncode(t, "bytes twice, and a number", api.ErrArg, blob, blob, num)
	wantEncode(t, "bytes thrice", api.OK, blob, blob, blob)
	wantEncode(t, "falling numbers", api.ErrArg, num, message.Num(4, 1))
	wantEncode(t, "falling bytes", api.ErrArg, blob, message.Blob(4, nil))
	wantEncode(t, "bytes not behind each other", api.ErrArg, blob, message.Num(6, 1), blob)
	wantEncode(t, "bytes with a number", api.ErrArg, message.Field{Tag: 1, Bytes: true, N: 1})
	wantEncode(t, "a number with bytes", api.ErrArg, message.Field{Tag: 1, B: []byte{0}})
	wantEncode(t, "a number with no bytes", api.OK, message.Field{Tag: 1, B: []byte{}})
}

func wantDecode(t *testing.T, b []byte, at int, want api.Errno) {
	t.Helper()
	if l, n, e := message.Decode(b); len(l) != 0 || n != at || e != want {
		t.Errorf("Decode(%v): %v, %d, %d, not %d, %d", b, l, n, e, at, want)
	}
}

func TestDecodeWrongNumbers(t *testing.T) {
	beyond := bytes.Repeat([]byte{255}, 10)
	wantDecode(t, []byte{128}, 0, api.ErrShort)
	wantDecode(t, []byte{128, 0, 1}, 0, api.ErrForm)
	wantDecode(t, beyond, 0, api.ErrForm)
	wantDecode(t, []byte{2}, 0, api.ErrShort)
	wantDecode(t, []byte{2, 128}, 0, api.ErrShort)
	wantDecode(t, []byte{2, 128, 0}, 0, api.ErrForm)
	wantDecode(t, append([]byte{2}, beyond...), 0, api.ErrForm)
	wantDecode(t, []byte{2, 1, 4}, 2, api.ErrShort)
	wantDecode(t, []byte{2, 1, 5, 129, 0}, 2, api.ErrForm)
	wantDecode(t, []byte{3, 2, 7, 8, 5, 1, 9, 128}, 7, api.ErrShort)
}

func TestDecodeFewerBytes(t *testing.T) {
	wantDecode(t, []byte{3, 1}, 0, api.ErrShort)
	wantDecode(t, []byte{2, 1, 5, 3, 7, 8}, 2, api.ErrShort)
	for _, n := range []uint64{1 << 31, 1 << 32, math.MaxInt, math.MaxInt + 1, math.MaxUint64 - 1, math.MaxUint64} {
		wantDecode(t, append(varint.Append([]byte{2, 1, 5}, n), 7, 8), 2, api.ErrShort)
	}
}

func TestDecodeArg(t *testing.T) {
	for _, key := range []uint64{0, 1, 2002, 2003, 1 << 32, 1<<32 + 2, 1<<33 + 2, 1 << 63, 1<<63 + 3, math.MaxUint64 - 1, math.MaxUint64} {
		wantDecode(t, append(varint.Append(nil, key), 0), 0, api.ErrArg)
		wantDecode(t, append(varint.Append([]byte{2, 1}, key), 0), 2, api.ErrArg)
	}
	wantDecode(t, []byte{4, 1, 2, 1}, 2, api.ErrArg)
	wantDecode(t, []byte{5, 1, 9, 3, 0}, 3, api.ErrArg)
	wantDecode(t, []byte{4, 1, 4, 1}, 2, api.ErrArg)
	wantDecode(t, []byte{4, 1, 5, 0}, 2, api.ErrArg)
	wantDecode(t, []byte{5, 0, 4, 1}, 2, api.ErrArg)
	wantDecode(t, []byte{5, 0, 5, 0, 4, 1}, 4, api.ErrArg)
	wantDecode(t, []byte{5, 0, 6, 1, 5, 0}, 4, api.ErrArg)
}

// TestDecodeFirstError: of one field, what its bytes lack comes ahead of its tag.
func TestDecodeFirstError(t *testing.T) {
	wantDecode(t, []byte{0}, 0, api.ErrShort)
	wantDecode(t, []byte{0, 128, 0}, 0, api.ErrForm)
	wantDecode(t, []byte{1, 1}, 0, api.ErrShort)
	wantDecode(t, []byte{4, 1, 3, 2, 7}, 2, api.ErrShort)
	wantDecode(t, []byte{4, 1, 4}, 2, api.ErrShort)
	wantDecode(t, []byte{0, 1, 128, 0}, 0, api.ErrArg)
}

func TestDecodeLong(t *testing.T) {
	full, _ := message.Encode(numbers(64)...)
	if l, n, e := message.Decode(full); len(l) != 64 || n != 64 || e != api.OK {
		t.Errorf("Decode of 64 fields: %d, %d, %d", len(l), n, e)
	}
	// The last tag is 64, so the key of one more is 130.
	for _, x := range []struct {
		behind []byte
		want   api.Errno
	}{
		{[]byte{130, 1, 0}, api.ErrLong},
		{[]byte{131, 1, 1, 9}, api.ErrLong},
		{[]byte{130, 1, 0, 128, 0}, api.ErrLong},
		{[]byte{130, 1}, api.ErrShort},
		{[]byte{130, 0}, api.ErrForm},
		{[]byte{131, 1, 1}, api.ErrShort},
		{[]byte{128, 1, 0}, api.ErrArg},
		{[]byte{0, 0}, api.ErrArg},
	} {
		wantDecode(t, append(slices.Clone(full), x.behind...), len(full), x.want)
	}
	blobs := bytes.Repeat([]byte{3, 0}, 65)
	wantDecode(t, blobs, 128, api.ErrLong)
	wantBytes := append([]byte{3, 253, 31}, make([]byte, 4093)...)
	if l, n, e := message.Decode(wantBytes); len(l) != 1 || n != 1 || e != api.OK {
		t.Errorf("Decode of 4096 bytes: %d, %d, %d", len(l), n, e)
	}
	wantDecode(t, append([]byte{3, 254, 31}, make([]byte, 4094)...), 0, api.ErrLong)
	wantDecode(t, append([]byte{2, 1}, make([]byte, 4095)...), 0, api.ErrLong)
	wantDecode(t, bytes.Repeat([]byte{255}, 4097), 0, api.ErrLong)
	wantDecode(t, bytes.Repeat([]byte{255}, 4096), 0, api.ErrForm)
}

// wild is a list that is no message: fields in no order, of both kinds, and of both at once.
func wild() []message.Field {
	return []message.Field{
		{Tag: 7, Bytes: true, N: 70, B: []byte("x")},
		{Tag: 7, N: 71, B: []byte("no")},
		{Tag: -2, N: 3},
		{Tag: 7, N: 72},
		{Tag: 7, Bytes: true},
		{Tag: 5, Bytes: true, B: []byte("five")},
		{Tag: 7, Bytes: true, B: []byte("yz")},
	}
}

func TestNumber(t *testing.T) {
	for tag, want := range map[int]uint64{7: 71, -2: 3} {
		if n, ok := message.Number(wild(), tag); n != want || !ok {
			t.Errorf("Number(%d): %d, %v, not %d", tag, n, ok, want)
		}
	}
	for _, tag := range []int{5, 0, 6, math.MaxInt, math.MinInt} {
		if n, ok := message.Number(wild(), tag); n != 0 || ok {
			t.Errorf("Number(%d): %d, %v, of none", tag, n, ok)
		}
	}
	if n, ok := message.Number(nil, 7); n != 0 || ok {
		t.Errorf("Number of no fields: %d, %v", n, ok)
	}
	if n, ok := message.Number([]message.Field{message.Num(1, 0)}, 1); n != 0 || !ok {
		t.Errorf("Number of 0: %d, %v", n, ok)
	}
}

func TestBytes(t *testing.T) {
	for tag, want := range map[int]string{7: "x", 5: "five"} {
		if b, ok := message.Bytes(wild(), tag); string(b) != want || !ok {
			t.Errorf("Bytes(%d): %q, %v, not %q", tag, b, ok, want)
		}
	}
	for _, tag := range []int{-2, 0, 6, math.MaxInt, math.MinInt} {
		if b, ok := message.Bytes(wild(), tag); b != nil || ok {
			t.Errorf("Bytes(%d): %q, %v, of none", tag, b, ok)
		}
	}
	if b, ok := message.Bytes(nil, 7); b != nil || ok {
		t.Errorf("Bytes of no fields: %q, %v", b, ok)
	}
	if b, ok := message.Bytes([]message.Field{message.Blob(1, nil)}, 1); len(b) != 0 || !ok {
		t.Errorf("Bytes of an empty field: %q, %v", b, ok)
	}
}

func TestMany(t *testing.T) {
	for tag, want := range map[int][]string{7: {"x", "", "yz"}, 5: {"five"}, -2: nil, 6: nil} {
		got := message.Many(wild(), tag)
		if !slices.EqualFunc(got, want, func(b []byte, s string) bool { return string(b) == s }) {
			t.Errorf("Many(%d): %q, not %q", tag, got, want)
		}
	}
	if got := message.Many(nil, 7); len(got) != 0 {
		t.Errorf("Many of no fields: %q", got)
	}
}

func TestOnly(t *testing.T) {
	for _, x := range []struct {
		l    []message.Field
		tags []int
		want bool
	}{
		{nil, nil, true},
		{nil, []int{1}, true},
		{wild(), []int{7, 5, -2}, true},
		{wild(), []int{-2, 1, 7, 7, 5, 9}, true},
		{wild(), []int{7, 5}, false},
		{wild(), []int{-2, 5}, false},
		{wild(), []int{7, -2}, false},
		{wild(), nil, false},
		{numbers(1), []int{2}, false},
	} {
		if got := message.Only(x.l, x.tags...); got != x.want {
			t.Errorf("Only(%v, %v): %v", x.l, x.tags, got)
		}
	}
}

// TestMemory: what is handed in stays as it is, what is answered is new memory, each list of its own.
func TestMemory(t *testing.T) {
	room := []byte("abcdef")
	f := message.Blob(1, room[:2])
	f.B[0] = 'z'
	_ = append(f.B, 'z')
	given := []message.Field{{Tag: 1, Bytes: true, B: room[:2]}, {Tag: 2, Bytes: true, B: room[2:4]}}
	b, _ := message.Encode(given...)
	was := slices.Clone(b)
	b[2] = 'z'
	one, _ := message.Bytes(given, 1)
	one[0] = 'z'
	_ = append(one, 'z')
	many := message.Many(given, 2)
	many[0][0] = 'z'
	_ = append(many[0], 'z')
	if string(room) != "abcdef" || string(given[0].B) != "ab" || string(given[1].B) != "cd" {
		t.Errorf("what was handed in is changed: %q, %v", room, given)
	}
	l, _, _ := message.Decode(was)
	_ = append(l[0].B, 'z', 'z', 'z')
	if string(was) != "\x03\x02ab\x05\x02cd" || string(l[1].B) != "cd" {
		t.Errorf("a field shares memory: %q, %q", was, l[1].B)
	}
	was[2] = 'y'
	if string(l[0].B) != "ab" {
		t.Errorf("a field is what was handed in: %q", l[0].B)
	}
}

// TestNothingElseIsDecoded goes through all short strings of bytes that matter: what is decoded is what would be encoded, and a fault stands behind whole fields.
func TestNothingElseIsDecoded(t *testing.T) {
	decoded := 0
	check := func(b []byte) {
		l, n, e := message.Decode(b)
		if e == api.OK {
			decoded++
			if got, e := message.Encode(l...); n != len(l) || !bytes.Equal(got, b) || e != api.OK {
				t.Fatalf("Decode(%v): %v, %d, whose bytes are %v, %d", b, l, n, got, e)
			}
			return
		}
		if n >= len(b) || len(l) != 0 {
			t.Fatalf("Decode(%v): %v, %d, %d", b, l, n, e)
		}
		if _, _, e := message.Decode(b[:n]); e != api.OK {
			t.Fatalf("Decode(%v): the fault isn't the first one: %d, %d", b, n, e)
		}
	}
	eachString([]byte{0, 1, 2, 3, 4, 5, 128}, 7, check)
	if decoded < 1000 {
		t.Errorf("only %d strings were decoded", decoded)
	}
}

// TestAllThatIsEncodedIsDecoded goes through lists of up to four fields: those that are encoded are decoded to the same, no two to the same bytes, and all others are refused for their tags.
func TestAllThatIsEncodedIsDecoded(t *testing.T) {
	some := []message.Field{
		message.Num(1, 0), message.Num(1, 300), message.Blob(1, nil), message.Blob(1, []byte{1}),
		message.Num(2, 1), message.Blob(2, []byte{2, 5}), message.Num(0, 1), message.Num(1000, math.MaxUint64),
		message.Blob(1001, nil), {Tag: 2, Bytes: true, N: 1}, {Tag: 3, B: []byte{1}},
	}
	seen := map[string]int{}
	index := make([]int, 4)
	var walk func(deep int)
	walk = func(deep int) {
		var l []message.Field
		for _, i := range index[:deep] {
			l = append(l, some[i])
		}
		b, e := message.Encode(l...)
		if e == api.OK {
			seen[string(b)]++
			if got, n, e := message.Decode(b); !sameFields(got, l) || n != len(l) || e != api.OK {
				t.Fatalf("Decode of Encode(%v): %v, %d, %d", l, got, n, e)
			}
		} else if e != api.ErrArg || len(b) != 0 {
			t.Fatalf("Encode(%v): %v, %d", l, b, e)
		}
		for i := range some {
			if deep < len(index) {
				index[deep] = i
				walk(deep + 1)
			}
		}
	}
	walk(0)
	for s, n := range seen {
		if n != 1 {
			t.Errorf("%q are the bytes of %d lists", s, n)
		}
	}
}

// eachString hands on each string of at most that many bytes, of these alone.
func eachString(some []byte, most int, do func([]byte)) {
	var grow func(b []byte)
	grow = func(b []byte) {
		do(b)
		if len(b) == most {
			return
		}
		for _, c := range some {
			grow(append(slices.Clone(b), c))
		}
	}
	grow(nil)
}
