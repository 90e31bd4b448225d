package varint_test

import (
	"bytes"
	"math"
	"slices"
	"testing"

	"flange/api"
	"flange/varint"
)

// told holds numbers of every size, the least and the greatest of each, with their bytes.
var told = []struct {
	n uint64
	b []byte
}{
	{0, []byte{0}},
	{1, []byte{1}},
	{127, []byte{127}},
	{128, []byte{128, 1}},
	{300, []byte{172, 2}},
	{1<<14 - 1, []byte{255, 127}},
	{1 << 14, []byte{128, 128, 1}},
	{1<<21 - 1, []byte{255, 255, 127}},
	{1 << 21, []byte{128, 128, 128, 1}},
	{1<<28 - 1, []byte{255, 255, 255, 127}},
	{1 << 28, []byte{128, 128, 128, 128, 1}},
	{1<<35 - 1, []byte{255, 255, 255, 255, 127}},
	{1 << 35, []byte{128, 128, 128, 128, 128, 1}},
	{1<<42 - 1, []byte{255, 255, 255, 255, 255, 127}},
	{1 << 42, []byte{128, 128, 128, 128, 128, 128, 1}},
	{1<<49 - 1, []byte{255, 255, 255, 255, 255, 255, 127}},
	{1 << 49, []byte{128, 128, 128, 128, 128, 128, 128, 1}},
	{1<<56 - 1, []byte{255, 255, 255, 255, 255, 255, 255, 127}},
	{1 << 56, []byte{128, 128, 128, 128, 128, 128, 128, 128, 1}},
	{1<<63 - 1, []byte{255, 255, 255, 255, 255, 255, 255, 255, 127}},
	{1 << 63, []byte{128, 128, 128, 128, 128, 128, 128, 128, 128, 1}},
	{math.MaxUint64, []byte{255, 255, 255, 255, 255, 255, 255, 255, 255, 1}},
}

func TestAppend(t *testing.T) {
	for _, x := range told {
		for _, ahead := range [][]byte{nil, {}, {9}, {128, 0, 255}} {
			want := append(slices.Clone(ahead), x.b...)
			if got := varint.Append(ahead, x.n); !bytes.Equal(got, want) {
				t.Errorf("Append(%v, %d): %v, not %v", ahead, x.n, got, want)
			}
		}
	}
}

func TestSize(t *testing.T) {
	for _, x := range told {
		if got := varint.Size(x.n); got != len(x.b) {
			t.Errorf("Size(%d): %d, not %d", x.n, got, len(x.b))
		}
	}
}

func TestReadNumbers(t *testing.T) {
	for _, x := range told {
		for _, behind := range [][]byte{nil, {0}, {128}, {255, 1}} {
			b := append(slices.Clone(x.b), behind...)
			if n, size, e := varint.Read(b); n != x.n || size != len(x.b) || e != api.OK {
				t.Errorf("Read(%v): %d, %d, %d, not %d, %d, 0", b, n, size, e, x.n, len(x.b))
			}
		}
		for i := range x.b {
			wantRead(t, x.b[:i], api.ErrShort)
		}
	}
}

func TestReadWrong(t *testing.T) {
	nine := bytes.Repeat([]byte{255}, 9)
	low := bytes.Repeat([]byte{128}, 9)
	wantRead(t, nil, api.ErrShort)
	wantRead(t, []byte{}, api.ErrShort)
	wantRead(t, nine, api.ErrShort)
	wantRead(t, low, api.ErrShort)
	for i := 1; i <= 9; i++ {
		wantRead(t, append(slices.Clone(low[:i]), 0), api.ErrForm)
		wantRead(t, append(slices.Clone(nine[:i]), 0, 1), api.ErrForm)
	}
	for c := range 256 {
		if c == 1 {
			continue
		}
		wantRead(t, append(slices.Clone(nine), byte(c)), api.ErrForm)
		wantRead(t, append(slices.Clone(low), byte(c), 1), api.ErrForm)
	}
}

func wantRead(t *testing.T, b []byte, want api.Errno) {
	t.Helper()
	if n, size, e := varint.Read(b); n != 0 || size != 0 || e != want {
		t.Errorf("Read(%v): %d, %d, %d, not 0, 0, %d", b, n, size, e, want)
	}
	if n, size, e := varint.ReadInt(b); n != 0 || size != 0 || e != want {
		t.Errorf("ReadInt(%v): %d, %d, %d, not 0, 0, %d", b, n, size, e, want)
	}
}

func TestZigzag(t *testing.T) {
	for n, u := range map[int]uint64{
		0: 0, -1: 1, 1: 2, -2: 3, 2: 4, -150: 299, 150: 300,
		1 << 62: 1 << 63, -1 << 62: 1<<63 - 1,
		math.MaxInt: math.MaxUint64 - 1, math.MinInt: math.MaxUint64,
	} {
		if got := varint.Zig(n); got != u {
			t.Errorf("Zig(%d): %d, not %d", n, got, u)
		}
		if got := varint.Zag(u); got != n {
			t.Errorf("Zag(%d): %d, not %d", u, got, n)
		}
	}
}

func TestInts(t *testing.T) {
	for n, want := range map[int][]byte{
		0: {0}, -1: {1}, 1: {2}, -64: {127}, 64: {128, 1}, 150: {172, 2},
		math.MaxInt: {254, 255, 255, 255, 255, 255, 255, 255, 255, 1},
		math.MinInt: {255, 255, 255, 255, 255, 255, 255, 255, 255, 1},
	} {
		b := varint.AppendInt([]byte{7, 128}, n)
		if !bytes.Equal(b, append([]byte{7, 128}, want...)) {
			t.Errorf("AppendInt(7 128, %d): %v", n, b)
		}
		if got, size, e := varint.ReadInt(append(b[2:], 128)); got != n || size != len(want) || e != api.OK {
			t.Errorf("ReadInt of %d: %d, %d, %d", n, got, size, e)
		}
	}
}

func TestAll(t *testing.T) {
	var b []byte
	var want []uint64
	for _, x := range told {
		b = append(b, x.b...)
		want = append(want, x.n)
	}
	if l, size, e := varint.All(b); !slices.Equal(l, want) || size != len(b) || e != api.OK {
		t.Errorf("All: %v, %d, %d", l, size, e)
	}
	for _, none := range [][]byte{nil, {}} {
		if l, size, e := varint.All(none); len(l) != 0 || size != 0 || e != api.OK {
			t.Errorf("All of nothing: %v, %d, %d", l, size, e)
		}
	}
	for _, x := range []struct {
		b  []byte
		at int
		e  api.Errno
	}{
		{[]byte{128}, 0, api.ErrShort},
		{[]byte{128, 0}, 0, api.ErrForm},
		{[]byte{1, 128, 1, 128}, 3, api.ErrShort},
		{[]byte{1, 128, 1, 255, 128, 0, 5}, 3, api.ErrForm},
		{append([]byte{0}, bytes.Repeat([]byte{255}, 10)...), 1, api.ErrForm},
		{append([]byte{0}, bytes.Repeat([]byte{255}, 9)...), 1, api.ErrShort},
		{append(slices.Clone(b), 128), len(b), api.ErrShort},
	} {
		if l, at, e := varint.All(x.b); len(l) != 0 || at != x.at || e != x.e {
			t.Errorf("All(%v): %v, %d, %d, not %d, %d", x.b, l, at, e, x.at, x.e)
		}
	}
}

// TestSpareRoom: what is handed in stays as it is, what is answered is new memory.
func TestSpareRoom(t *testing.T) {
	room := []byte{1, 2, 3, 4, 5, 6, 7, 8, 9, 10, 11, 12, 13, 14}
	was := slices.Clone(room)
	a := varint.Append(room[:2], math.MaxUint64)
	b := varint.AppendInt(room[:2], math.MinInt)
	a[0], b[1] = 99, 99
	if !bytes.Equal(room, was) {
		t.Errorf("the room behind was written to: %v", room)
	}
	c := varint.Append(a, 1)
	d := varint.Append(a, 2)
	if c[len(a)] != 1 || d[len(a)] != 2 {
		t.Errorf("two answers share memory: %v, %v", c, d)
	}
}

// TestNothingElseIsRead goes through all short strings of bytes that matter: what is read is what would be appended; what is short has an end; what is wrong has none.
func TestNothingElseIsRead(t *testing.T) {
	check := func(b []byte) {
		n, size, e := varint.Read(b)
		switch e {
		case api.OK:
			if !bytes.Equal(varint.Append(nil, n), b[:size]) {
				t.Fatalf("Read(%v): %d, %d, whose bytes are others", b, n, size)
			}
		case api.ErrShort:
			if _, size, e := varint.Read(append(slices.Clone(b), 1)); size != len(b)+1 || e != api.OK {
				t.Fatalf("Read(%v): short, but 1 doesn't end it", b)
			}
		default:
			// A byte 1 ends what more bytes could end.
			if _, _, e := varint.Read(append(slices.Clone(b), 1)); e != api.ErrForm {
				t.Fatalf("Read(%v): wrong, but 1 ends it: %d", b, e)
			}
		}
	}
	for i := range 1 << 16 {
		check([]byte{byte(i), byte(i >> 8)})
	}
	some := []byte{0, 1, 2, 127, 128, 129, 255}
	for _, ahead := range [][]byte{nil, bytes.Repeat([]byte{128}, 6), bytes.Repeat([]byte{255}, 7)} {
		eachString(some, 5, func(b []byte) { check(append(slices.Clone(ahead), b...)) })
	}
}

// eachString hands on each string of at most that many bytes, of these alone.
func eachString(some []byte, most int, do func([]byte)) {
	var grow func(b []byte)
	grow = func(b []byte) {
		do(b)
		if len(b) == most {
			return
		}
		for _, c := range some {
			grow(append(slices.Clone(b), c))
		}
	}
	grow(nil)
}
