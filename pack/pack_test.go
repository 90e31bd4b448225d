package pack_test

import (
	"bytes"
	"math"
	"slices"
	"strconv"
	"strings"
	"testing"

	"flange/api"
	"flange/message"
	"flange/pack"
	"flange/value"
	"flange/varint"
)

const edge = 1 << 53

func point(re, im int) value.Value {
	p, e := value.Point(re, im)
	if e != api.OK {
		panic("no point")
	}
	return p
}

// tie is a Map of keys and values, one by one.
func tie(l ...any) value.Value {
	var keys []string
	var items []value.Value
	for i := 0; i < len(l); i += 2 {
		keys = append(keys, l[i].(string))
		items = append(items, l[i+1].(value.Value))
	}
	m, e := value.Map(keys, items)
	if e != api.OK {
		panic("no map")
	}
	return m
}

// nested is a value in so many Lists.
func nested(v value.Value, n int) value.Value {
	for range n {
		v = value.List(v)
	}
	return v
}

// counted is a Map of so many keys.
func counted(n int) value.Value {
	var l []any
	for i := range n {
		l = append(l, strconv.Itoa(i), value.Unset())
	}
	return tie(l...)
}

// sized is a List of Texts of these many bytes.
func sized(sizes ...int) value.Value {
	var l []value.Value
	for _, n := range sizes {
		l = append(l, value.Text(strings.Repeat("x", n)))
	}
	return value.List(l...)
}

// fill is fourteen Texts of 256 bytes, and two more: with the kind 3698 bytes, and those of the two.
func fill(a, b int) value.Value {
	return sized(append(slices.Repeat([]int{256}, 14), a, b)...)
}

// packed is a value, and its bytes.
type packed struct {
	v value.Value
	b string
}

func some() []packed {
	return []packed{
		{value.Unset(), "\x02\x00"},
		{value.Value{}, "\x02\x00"},
		{value.Later(), "\x02\x01"},
		{value.Of(false), "\x02\x02\x04\x00"},
		{value.Of(true), "\x02\x02\x04\x01"},
		{value.Int(0), "\x02\x03\x04\x00"},
		{value.Int(1), "\x02\x03\x04\x02"},
		{value.Int(-1), "\x02\x03\x04\x01"},
		{value.Int(150), "\x02\x03\x04\xac\x02"},
		{value.Int(math.MaxInt), "\x02\x03\x04\xfe\xff\xff\xff\xff\xff\xff\xff\xff\x01"},
		{value.Int(math.MinInt), "\x02\x03\x04\xff\xff\xff\xff\xff\xff\xff\xff\xff\x01"},
		{point(0, 0), "\x02\x04\x04\x00\x06\x00"},
		{point(2, -3), "\x02\x04\x04\x04\x06\x05"},
		{point(edge, -edge), "\x02\x04\x04\x80\x80\x80\x80\x80\x80\x80\x20\x06\xff\xff\xff\xff\xff\xff\xff\x1f"},
		{value.Text(""), "\x02\x05\x09\x00"},
		{value.Text("ab"), "\x02\x05\x09\x02ab"},
		{value.Text("\x00\xff"), "\x02\x05\x09\x02\x00\xff"},
		{value.Text(strings.Repeat("x", 256)), "\x02\x05\x09\x80\x02" + strings.Repeat("x", 256)},
		{value.List(), "\x02\x06"},
		{value.List(value.Of(true), value.Unset()), "\x02\x06\x0b\x04\x02\x02\x04\x01\x0b\x02\x02\x00"},
		{value.List(value.List(), tie(), value.Later()), "\x02\x06\x0b\x02\x02\x06\x0b\x02\x02\x07\x0b\x02\x02\x01"},
		{tie(), "\x02\x07"},
		{tie("", value.Unset()), "\x02\x07\x0d\x00\x0f\x02\x02\x00"},
		{tie("b", value.Int(1), "a", value.Text("c")), "\x02\x07\x0d\x01a\x0d\x01b\x0f\x05\x02\x05\x09\x01c\x0f\x04\x02\x03\x04\x02"},
		{tie("\xff", value.Unset(), "ab", value.Unset(), "B", value.Unset(), "a", value.Later()), "\x02\x07\x0d\x01B\x0d\x01a\x0d\x02ab\x0d\x01\xff\x0f\x02\x02\x00\x0f\x02\x02\x01\x0f\x02\x02\x00\x0f\x02\x02\x00"},
		{tie("k", tie("l", value.List(value.Int(5)))), inMap("k", inMap("l", "\x02\x06\x0b\x04\x02\x03\x04\x0a"))},
		{nested(value.Of(true), 2), "\x02\x06\x0b\x08\x02\x06\x0b\x04\x02\x02\x04\x01"},
		{value.List(make([]value.Value, 63)...), "\x02\x06" + strings.Repeat("\x0b\x02\x02\x00", 63)},
	}
}

// inMap is the bytes of a Map of one key, of the value's bytes, both short.
func inMap(key, b string) string {
	return "\x02\x07\x0d" + string([]byte{byte(len(key))}) + key + "\x0f" + string([]byte{byte(len(b))}) + b
}

func TestBothWays(t *testing.T) {
	for _, x := range some() {
		b, e := pack.Encode(x.v)
		if e != api.OK || string(b) != x.b {
			t.Errorf("Encode: %q, %d, not %q", b, e, x.b)
		}
		if got, e := pack.Decode([]byte(x.b)); e != api.OK || !value.Same(got, x.v) {
			t.Errorf("Decode(%q): kind %d, %d", x.b, got.Kind(), e)
		}
		if got := pack.Size(x.v); got != len(x.b) {
			t.Errorf("Size of %q: %d, not %d", x.b, got, len(x.b))
		}
	}
}

// wantFits: a value has bytes, so many of them (any number, if that is 0), and they are read again.
func wantFits(t *testing.T, what string, v value.Value, size int) {
	t.Helper()
	b, e := pack.Encode(v)
	if e != api.OK || len(b) == 0 || size > 0 && len(b) != size || pack.Size(v) != len(b) {
		t.Errorf("Encode of %s: %d bytes, %d; Size %d", what, len(b), e, pack.Size(v))
	}
	if got, e := pack.Decode(b); e != api.OK || !value.Same(got, v) {
		t.Errorf("Decode of %s: kind %d, %d", what, got.Kind(), e)
	}
}

func wantLong(t *testing.T, what string, v value.Value) {
	t.Helper()
	for _, x := range []value.Value{v, value.List(value.Int(1), v), tie("a", v)} {
		b, e := pack.Encode(x)
		if e != api.ErrLong || len(b) != 0 || pack.Size(x) != 0 {
			t.Errorf("Encode of %s: %d bytes, %d; Size %d", what, len(b), e, pack.Size(x))
		}
	}
}

func TestEdges(t *testing.T) {
	long := strings.Repeat("k", 256)
	wantFits(t, "a text of 256 bytes", value.Text(long), 2+3+256)
	wantLong(t, "a text of 257 bytes", value.Text(long+"k"))
	wantFits(t, "a key of 256 bytes", tie(long, value.Unset()), 2+3+256+4)
	wantLong(t, "a key of 257 bytes", tie(long+"k", value.Unset()))
	wantFits(t, "a value 8 deep", nested(value.Int(1), 7), 0)
	wantLong(t, "a value 9 deep", nested(value.Int(1), 8))
	wantFits(t, "lists 8 deep", nested(value.List(), 7), 0)
	wantFits(t, "a list of 63", value.List(make([]value.Value, 63)...), 2+63*4)
	wantLong(t, "a list of 64, that is right, of 65 fields", value.List(make([]value.Value, 64)...))
	wantLong(t, "a list of 65", value.List(make([]value.Value, 65)...))
	wantFits(t, "a map of 31", counted(31), 0)
	wantLong(t, "a map of 32, that is right, of 65 fields", counted(32))
	wantLong(t, "a map of 65", counted(65))
	wantFits(t, "4096 bytes", fill(256, 127), 4096)
	wantFits(t, "4095 bytes", fill(255, 127), 4095)
	wantLong(t, "4097 bytes", fill(255, 128))
	wantLong(t, "4098 bytes", fill(256, 128))
	wantLong(t, "a list of long lists", value.List(fill(256, 127)))
	wantLong(t, "two halves", value.List(sized(slices.Repeat([]int{256}, 8)...), sized(slices.Repeat([]int{256}, 8)...)))
}

// TestFewAndMany: the most values that a message has room for, and one more.
func TestFewAndMany(t *testing.T) {
	rows := func(l ...int) value.Value {
		var out []value.Value
		for _, n := range l {
			out = append(out, value.List(make([]value.Value, n)...))
		}
		return value.List(out...)
	}
	// A row of 63 is 254 bytes, in its field 257: fifteen of them 3855, with the kind 3857.
	full := slices.Repeat([]int{63}, 15)
	wantFits(t, "full rows", rows(full...), 3857)
	// A row of 58 is 234 bytes, in its field 237: 4094.
	wantFits(t, "one more row", rows(append(full, 58)...), 4094)
	wantLong(t, "one more row, one longer", rows(append(full, 59)...))
	wantLong(t, "sixteen rows", rows(append(full, 63)...))
}

// TestShared: a value may stand in others in many places, and these again; all is told in no time.
func TestShared(t *testing.T) {
	for _, n := range []int{2, 16, 63, 64} {
		v, w := value.Int(1), value.Int(1)
		for range 7 {
			v = value.List(slices.Repeat([]value.Value{v}, n)...)
			var l []any
			for i := range n / 2 {
				l = append(l, strconv.Itoa(i), w)
			}
			w = tie(l...)
		}
		if n > 2 {
			wantLong(t, "a full List", v)
			wantLong(t, "a full Map", w)
		} else {
			wantFits(t, "a List", v, 0)
			wantFits(t, "a Map", w, 0)
		}
	}
	twice := value.Later()
	for range 200 {
		twice = value.List(twice, twice)
	}
	wantLong(t, "a List twice in a List, and so on", twice)
	wantLong(t, "a very deep List", nested(value.Int(1), 1000000))
}

func wantNone(t *testing.T, what string, b []byte) {
	t.Helper()
	if v, e := pack.Decode(b); e != api.ErrForm || v.Kind() != value.KindNull {
		t.Errorf("Decode of %s, %q: kind %d, %d", what, b, v.Kind(), e)
	}
	if l, e := pack.All([][]byte{{2, 0}, b, {2, 1}}); e != api.ErrForm || len(l) != 0 {
		t.Errorf("All of %s, %q, and others: %d values, %d", what, b, len(l), e)
	}
	// The same within others.
	for _, l := range [][]message.Field{
		{message.Num(1, 6), message.Blob(5, b)},
		{message.Num(1, 6), message.Blob(5, []byte{2, 0}), message.Blob(5, b)},
		{message.Num(1, 7), message.Blob(6, nil), message.Blob(7, b)},
	} {
		if outer, e := message.Encode(l...); e == api.OK {
			if v, e := pack.Decode(outer); e != api.ErrForm || v.Kind() != value.KindNull {
				t.Errorf("Decode of %s within others, %q: kind %d, %d", what, outer, v.Kind(), e)
			}
		}
	}
}

// encoded is the bytes of fields, that stand in a message, of a value or not.
func encoded(l ...message.Field) []byte {
	b, e := message.Encode(l...)
	if e != api.OK {
		panic("no message")
	}
	return b
}

func TestNoMessage(t *testing.T) {
	for what, b := range map[string]string{
		"nothing": "", "half a field": "\x02", "half a number": "\x02\x80", "a kind that isn't canonical": "\x02\x80\x00", "a tag that isn't canonical": "\x82\x00\x00", "more behind it": "\x02\x00\x00",
		"tags that fall": "\x04\x01\x02\x02", "a number twice": "\x02\x03\x04\x02\x04\x02", "the kind twice": "\x02\x00\x02\x00", "a text that ends": "\x02\x05\x09\x02a", "a tag 0": "\x00\x00", "a tag 1001": "\x02\x00\xd2\x0f\x00",
		"values ahead of keys": "\x02\x07\x0f\x02\x02\x00\x0d\x00", "a number that isn't canonical": "\x02\x03\x04\x82\x00", "a length that isn't canonical": "\x02\x05\x09\x81\x00a",
	} {
		wantNone(t, what, []byte(b))
	}
	wantNone(t, "65 fields", []byte("\x02\x06"+strings.Repeat("\x0b\x02\x02\x00", 64)))
	wantNone(t, "4097 bytes", append(encoded(message.Num(1, 5), message.Blob(4, make([]byte, 4091))), 0))
}

func TestNoValue(t *testing.T) {
	num, blob := message.Num, message.Blob
	null := []byte{2, 0}
	for what, l := range map[string][]message.Field{
		"no kind": {num(2, 1)}, "the kind as bytes": {blob(1, nil)}, "the kind as bytes of it": {blob(1, []byte{3}), num(2, 1)}, "a kind 8": {num(1, 8)}, "a kind 2^32": {num(1, 1<<32)}, "a kind 2^64 - 1": {num(1, math.MaxUint64)}, "a kind 2^63 + 3": {num(1, 1<<63+3), num(2, 0)},
		"a Bool of nothing": {num(1, 2)}, "a Bool of 2": {num(1, 2), num(2, 2)}, "a Bool of 2^64 - 1": {num(1, 2), num(2, math.MaxUint64)}, "a Bool of bytes": {num(1, 2), blob(2, []byte{1})},
		"an Int of nothing": {num(1, 3)}, "an Int of bytes": {num(1, 3), blob(2, nil)},
		"a Point of nothing": {num(1, 4)}, "a Point of one part": {num(1, 4), num(2, 0)}, "a Point of the other": {num(1, 4), num(3, 0)}, "a Point of bytes": {num(1, 4), num(2, 0), blob(3, nil)},
		"a Point beyond": {num(1, 4), num(2, varint.Zig(edge+1)), num(3, 0)}, "a Point beyond, below": {num(1, 4), num(2, 0), num(3, varint.Zig(-edge-1))}, "a Point far beyond": {num(1, 4), num(2, math.MaxUint64), num(3, 0)},
		"a Text of nothing": {num(1, 5)}, "a Text of a number": {num(1, 5), num(4, 1)}, "a Text of two": {num(1, 5), blob(4, nil), blob(4, nil)}, "a Text of 257 bytes": {num(1, 5), blob(4, make([]byte, 257))},
		"a List of a number": {num(1, 6), num(5, 0)}, "a List of no message": {num(1, 6), blob(5, nil)}, "a List of wrong bytes": {num(1, 6), blob(5, null), blob(5, []byte{2})},
		"a Map without values": {num(1, 7), blob(6, nil)}, "a Map without keys": {num(1, 7), blob(7, null)}, "a Map of fewer values": {num(1, 7), blob(6, []byte("a")), blob(6, []byte("b")), blob(7, null)}, "a Map of fewer keys": {num(1, 7), blob(6, []byte("a")), blob(7, null), blob(7, null)},
		"a key twice": {num(1, 7), blob(6, []byte("a")), blob(6, []byte("a")), blob(7, null), blob(7, null)}, "keys that fall": {num(1, 7), blob(6, []byte("b")), blob(6, []byte("a")), blob(7, null), blob(7, null)},
		"a key of a number": {num(1, 7), num(6, 0), blob(7, null)}, "a key's value of a number": {num(1, 7), blob(6, nil), num(7, 0)}, "a key's value of no message": {num(1, 7), blob(6, nil), blob(7, nil)}, "a key of 257 bytes": {num(1, 7), blob(6, make([]byte, 257)), blob(7, null)},
	} {
		wantNone(t, what, encoded(l...))
	}
	deep := []byte{2, 6}
	for i := 1; i < 20; i++ {
		v, e := pack.Decode(deep)
		if i <= 8 && (e != api.OK || v.Deep() != i) || i > 8 && e != api.ErrForm {
			t.Errorf("Decode of Lists, %d deep: %d, %d", i, v.Deep(), e)
		}
		deep = encoded(message.Num(1, 6), message.Blob(5, deep))
	}
	for len(deep) < 4000 {
		deep = encoded(message.Num(1, 6), message.Blob(5, deep))
	}
	wantNone(t, "Lists, very deep", deep)
}

// TestOtherTags: a value's message has no other tags than those of its kind.
func TestOtherTags(t *testing.T) {
	for _, x := range some() {
		l, _, e := message.Decode([]byte(x.b))
		if e != api.OK {
			t.Errorf("%q is no message", x.b)
		}
		for tag := 1; tag <= 9; tag++ {
			for _, f := range []message.Field{message.Num(tag, 0), message.Num(tag, 1), message.Blob(tag, nil), message.Blob(tag, []byte{2, 0})} {
				behind, _ := slices.BinarySearchFunc(l, f.Tag+1, func(f message.Field, tag int) int { return f.Tag - tag })
				b, e := message.Encode(slices.Insert(slices.Clone(l), behind, f)...)
				if e != api.OK || x.v.Kind() == value.KindList && tag == 5 && f.Bytes && len(f.B) > 0 {
					continue
				}
				wantNone(t, "another tag "+strconv.Itoa(tag), b)
			}
		}
	}
}

// TestEveryShortMessage: no bytes but those that are encoded are decoded.
func TestEveryShortMessage(t *testing.T) {
	want := make(map[string]int)
	add := func(v value.Value) {
		if b, e := pack.Encode(v); e == api.OK && len(b) <= 6 {
			want[string(b)] = v.Kind()
		}
	}
	small := []value.Value{value.Unset(), value.Later(), value.List(), tie(), value.Of(false), value.Of(true), value.Text("")}
	for n := -9; n < 9; n++ {
		small = append(small, value.Int(n))
		for im := -9; im < 9; im++ {
			add(point(n, im))
		}
	}
	for _, v := range small {
		add(v)
		add(value.List(v))
	}
	const letters = "\x00\x01\x02\x03\x04\x05\x06\x07\x08\x09\x0b\x0d\x0f"
	add(value.Text(""))
	for i := range len(letters) {
		add(value.Text(letters[i : i+1]))
		for j := range len(letters) {
			add(value.Text(letters[i:i+1] + letters[j:j+1]))
		}
	}
	seen := 0
	var all func(b []byte, left int)
	all = func(b []byte, left int) {
		v, e := pack.Decode(b)
		kind, ok := want[string(b)]
		if ok != (e == api.OK) || ok && v.Kind() != kind || !ok && e != api.ErrForm {
			t.Errorf("Decode(%q): kind %d, %d", b, v.Kind(), e)
		}
		if e == api.OK {
			seen++
			if again, e := pack.Encode(v); e != api.OK || !bytes.Equal(again, b) {
				t.Errorf("Decode(%q) is of %q, %d", b, again, e)
			}
		}
		for i := 0; i < len(letters) && left > 0; i++ {
			all(append(b[:len(b):len(b)], letters[i]), left-1)
		}
	}
	all(nil, 6)
	if seen < 100 {
		t.Errorf("no more than %d were decoded", seen)
	}
}

// TestMutants: bytes with one taken, added or changed are decoded as what they are of, or not at all.
func TestMutants(t *testing.T) {
	for _, x := range some() {
		for i := range min(len(x.b), 40) {
			mutants := []string{x.b[:i], x.b[:i] + x.b[i+1:]}
			for c := range 256 {
				one := string([]byte{byte(c)})
				mutants = append(mutants, x.b[:i]+one+x.b[i:], x.b[:i]+one+x.b[i+1:])
			}
			for _, s := range mutants {
				v, e := pack.Decode([]byte(s))
				again, _ := pack.Encode(v)
				if e == api.OK && string(again) != s || e != api.OK && (e != api.ErrForm || v.Kind() != value.KindNull) {
					t.Errorf("Decode(%q): of %q, %d", s, again, e)
				}
			}
		}
	}
}

func TestManyAndAll(t *testing.T) {
	var l []value.Value
	var want [][]byte
	for _, x := range some() {
		l, want = append(l, x.v), append(want, []byte(x.b))
	}
	got, e := pack.Many(l...)
	if e != api.OK || !slices.EqualFunc(got, want, bytes.Equal) {
		t.Errorf("Many: %q, %d", got, e)
	}
	back, e := pack.All(want)
	if e != api.OK || !slices.EqualFunc(back, l, value.Same) {
		t.Errorf("All: %d values, %d", len(back), e)
	}
	if got, e := pack.Many(); e != api.OK || len(got) != 0 {
		t.Errorf("Many of none: %q, %d", got, e)
	}
	if got, e := pack.All(nil); e != api.OK || len(got) != 0 {
		t.Errorf("All of none: %d values, %d", len(got), e)
	}
	long := value.Text(strings.Repeat("x", 257))
	for _, l := range [][]value.Value{{long}, {long, value.Int(1)}, {value.Int(1), long}, {value.Int(1), long, value.Int(1), long}} {
		if got, e := pack.Many(l...); e != api.ErrLong || len(got) != 0 {
			t.Errorf("Many of one too long: %q, %d", got, e)
		}
	}
	for _, l := range [][][]byte{{nil}, {{}}, {{2, 0}, nil}, {{2}, {2, 0}}, {{2, 0}, make([]byte, 5000)}} {
		if got, e := pack.All(l); e != api.ErrForm || len(got) != 0 {
			t.Errorf("All(%q): %d values, %d", l, len(got), e)
		}
	}
	// More of them than a message has fields.
	if got, e := pack.Many(make([]value.Value, 1000)...); e != api.OK || len(got) != 1000 {
		t.Errorf("Many of 1000: %d, %d", len(got), e)
	}
}

// TestMemory: what is handed in is neither changed nor kept, what is answered is new memory.
func TestMemory(t *testing.T) {
	v := tie("key", value.List(value.Text("text"), value.Int(7)))
	b, _ := pack.Encode(v)
	was := string(b)
	room := append(b[:len(b):len(b)], "spare"...)
	got, e := pack.Decode(room[:len(was)])
	l, f := pack.All([][]byte{room[:len(was)]})
	if string(room) != was+"spare" {
		t.Errorf("Decode has changed what was handed in: %q", room)
	}
	for i := range room {
		room[i] = 'z'
	}
	if e != api.OK || f != api.OK || !value.Same(got, v) || !value.Same(l[0], v) {
		t.Errorf("Decode has kept what was handed in: %d, %d", e, f)
	}
	many, _ := pack.Many(v, v)
	for i := range b {
		b[i] = 'z'
	}
	for i := range many[0] {
		many[0][i] = 'z'
	}
	_ = append(many[0], "zzz"...)
	if again, _ := pack.Encode(v); string(again) != was || string(many[1]) != was {
		t.Errorf("two answers share memory: %q, %q", again, many[1])
	}
	values := []value.Value{value.Int(1), value.Int(2), value.Int(3)}
	_, _ = pack.Many(values[:2]...)
	for i, x := range values {
		if !value.Same(x, value.Int(i+1)) {
			t.Errorf("Many has changed what was handed in, at %d", i)
		}
	}
}
