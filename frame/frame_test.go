package frame_test

import (
	"bytes"
	"math"
	"slices"
	"testing"

	"flange/api"
	"flange/frame"
	"flange/varint"
)

// state is all that an assembler tells of itself.
type state struct {
	buffered, need, total int
	fault                 api.Errno
}

func stateOf(a *frame.Assembler) state {
	return state{a.Buffered(), a.Need(), a.Total(), a.Fault()}
}

func make1(t *testing.T, limit int) *frame.Assembler {
	t.Helper()
	a, e := frame.New(limit)
	if a == nil || e != api.OK {
		t.Fatalf("New(%d): %v, %d", limit, a, e)
	}
	return a
}

// frames is a short way to tell frames.
func frames(l ...string) [][]byte {
	var out [][]byte
	for _, s := range l {
		out = append(out, []byte(s))
	}
	return out
}

func sameFrames(a, b [][]byte) bool {
	return slices.EqualFunc(a, b, bytes.Equal)
}

func wantFeed(t *testing.T, a *frame.Assembler, chunk string, want [][]byte, e api.Errno, s state) {
	t.Helper()
	l, got := a.Feed([]byte(chunk))
	if !sameFrames(l, want) || got != e {
		t.Errorf("Feed(%q): %q, %d, not %q, %d", chunk, l, got, want, e)
	}
	if stateOf(a) != s {
		t.Errorf("behind Feed(%q): %v, not %v", chunk, stateOf(a), s)
	}
}

var wrongLimits = []int{-1, 4097, math.MinInt, math.MaxInt, -4096, 1 << 32}

func TestNew(t *testing.T) {
	for _, limit := range []int{0, 1, 127, 128, 4095, 4096} {
		if s := stateOf(make1(t, limit)); s != (state{}) {
			t.Errorf("New(%d) tells %v", limit, s)
		}
	}
	for _, limit := range wrongLimits {
		if a, e := frame.New(limit); a != nil || e != api.ErrArg {
			t.Errorf("New(%d): %v, %d", limit, a, e)
		}
	}
}

func TestNil(t *testing.T) {
	var a *frame.Assembler
	wantFeed(t, a, "\x01a", nil, api.ErrState, state{fault: api.ErrState})
	wantFeed(t, a, "", nil, api.ErrState, state{fault: api.ErrState})
}

func TestFeed(t *testing.T) {
	a := make1(t, 5)
	wantFeed(t, a, "", nil, api.OK, state{})
	wantFeed(t, a, "\x02\x07", nil, api.OK, state{buffered: 2, need: 1})
	wantFeed(t, a, "", nil, api.OK, state{buffered: 2, need: 1})
	wantFeed(t, a, "\x08\x00", frames("\x07\x08", ""), api.OK, state{total: 2})
	wantFeed(t, a, "\x05", nil, api.OK, state{buffered: 1, need: 5, total: 2})
	wantFeed(t, a, "abc", nil, api.OK, state{buffered: 4, need: 2, total: 2})
	wantFeed(t, a, "de\x01f\x00\x00\x03g", frames("abcde", "f", "", ""), api.OK, state{buffered: 2, need: 2, total: 8})
	wantFeed(t, a, "hi", frames("ghi"), api.OK, state{total: 11})
}

// TestFeedNumberInParts: a number of two bytes may come in two chunks; till it is whole, one byte is needed.
func TestFeedNumberInParts(t *testing.T) {
	a := make1(t, 4096)
	long := string(bytes.Repeat([]byte("x"), 300))
	wantFeed(t, a, "\xac", nil, api.OK, state{buffered: 1, need: 1})
	wantFeed(t, a, "\x02", nil, api.OK, state{buffered: 2, need: 300})
	wantFeed(t, a, long[:299], nil, api.OK, state{buffered: 301, need: 1})
	wantFeed(t, a, "x\x80", frames(long), api.OK, state{buffered: 1, need: 1, total: 300})
	wantFeed(t, a, "\x20", nil, api.OK, state{buffered: 2, need: 4096, total: 300})
}

func TestFeedBreaks(t *testing.T) {
	for _, x := range []struct {
		chunk string
		limit int
		want  [][]byte
		e     api.Errno
	}{
		{"\x80\x00", 5, nil, api.ErrForm},
		{"\x80\x00", 4096, nil, api.ErrForm},
		{"\x01a\x80\x00\x01b", 5, frames("a"), api.ErrForm},
		{"\x06", 5, nil, api.ErrLong},
		{"\x03abc\x00\x06abcdef", 5, frames("abc", ""), api.ErrLong},
		{"\x01", 0, nil, api.ErrLong},
		{"\x00\x00\x01", 0, frames("", ""), api.ErrLong},
		{"\x80\x01", 127, nil, api.ErrLong},
		{"\x81\x20", 4096, nil, api.ErrLong},
		{"\xff\xff\xff\xff\xff\xff\xff\xff\xff\x01", 4096, nil, api.ErrLong},
		{"\xff\xff\xff\xff\xff\xff\xff\xff\xff\x02", 4096, nil, api.ErrForm},
		{"\x80\x80\x80\x80\x80\x80\x80\x80\x80\x01", 0, nil, api.ErrLong},
	} {
		a := make1(t, x.limit)
		total := 0
		for _, f := range x.want {
			total += len(f)
		}
		broken := state{total: total, fault: x.e}
		wantFeed(t, a, x.chunk, x.want, x.e, broken)
		wantFeed(t, a, "\x01a", nil, api.ErrState, broken)
		wantFeed(t, a, "", nil, api.ErrState, broken)
		wantFeed(t, a, "\x80\x00", nil, api.ErrState, broken)
	}
}

// TestFeedBreaksLate: a number is above the limit once it is whole, and none once no more bytes could make it one.
func TestFeedBreaksLate(t *testing.T) {
	for last, e := range map[string]api.Errno{"\x01": api.ErrLong, "\x00": api.ErrForm, "\x02": api.ErrForm, "\xff": api.ErrForm} {
		a := make1(t, 5)
		for i := range 9 {
			wantFeed(t, a, "\xff", nil, api.OK, state{buffered: i + 1, need: 1})
		}
		wantFeed(t, a, last, nil, e, state{fault: e})
	}
}

func TestFeedLimits(t *testing.T) {
	for _, limit := range []int{0, 1, 127, 128, 4095, 4096} {
		whole := bytes.Repeat([]byte{255}, limit)
		a := make1(t, limit)
		laid := append(varint.Append(nil, uint64(limit)), whole...)
		wantFeed(t, a, string(laid), [][]byte{whole}, api.OK, state{total: limit})
		above := string(varint.Append(nil, uint64(limit)+1))
		wantFeed(t, a, above, nil, api.ErrLong, state{total: limit, fault: api.ErrLong})
	}
}

func TestWrap(t *testing.T) {
	for _, n := range []int{0, 1, 127, 128, 300, 4095, 4096} {
		b := bytes.Repeat([]byte("y"), n)
		want := append(varint.Append(nil, uint64(n)), b...)
		for _, limit := range []int{n, 4096} {
			if got, e := frame.Wrap(b, limit); !bytes.Equal(got, want) || e != api.OK {
				t.Errorf("Wrap of %d bytes, %d: %d bytes, %d", n, limit, len(got), e)
			}
		}
		if got, e := frame.Wrap(append(b, 'y'), n); len(got) != 0 || e != api.ErrLong {
			t.Errorf("Wrap of %d bytes, %d: %d bytes, %d", n+1, n, len(got), e)
		}
	}
	if got, e := frame.Wrap(nil, 0); !bytes.Equal(got, []byte{0}) || e != api.OK {
		t.Errorf("Wrap(nil, 0): %v, %d", got, e)
	}
	for _, limit := range wrongLimits {
		for _, b := range [][]byte{nil, {1}, make([]byte, 5000)} {
			if got, e := frame.Wrap(b, limit); len(got) != 0 || e != api.ErrArg {
				t.Errorf("Wrap of %d bytes, %d: %d bytes, %d", len(b), limit, len(got), e)
			}
		}
	}
}

func TestSplit(t *testing.T) {
	for _, x := range []struct {
		b     string
		limit int
		want  [][]byte
		n     int
		e     api.Errno
	}{
		{"", 5, nil, 0, api.OK},
		{"", 0, nil, 0, api.OK},
		{"\x00", 0, frames(""), 1, api.OK},
		{"\x02\x07\x08\x00", 5, frames("\x07\x08", ""), 2, api.OK},
		{"\x05abcde\x01f", 5, frames("abcde", "f"), 2, api.OK},
		{"\x01a\x02b", 5, nil, 2, api.ErrShort},
		{"\x02", 5, nil, 0, api.ErrShort},
		{"\x00\x00\x80", 5, nil, 2, api.ErrShort},
		{"\x80", 0, nil, 0, api.ErrShort},
		{"\x80\x00", 5, nil, 0, api.ErrForm},
		{"\x01a\x80\x00\x01", 5, nil, 2, api.ErrForm},
		{"\x01a\xff\xff\xff\xff\xff\xff\xff\xff\xff\x02", 5, nil, 2, api.ErrForm},
		{"\x06abcdef", 5, nil, 0, api.ErrLong},
		{"\x01a\x06", 5, nil, 2, api.ErrLong},
		{"\x01a\xff\xff\xff\xff\xff\xff\xff\xff\xff\x01", 5, nil, 2, api.ErrLong},
		{"\x00\x01a", 0, nil, 1, api.ErrLong},
		{"\x81\x20", 4096, nil, 0, api.ErrLong},
		{"\x80\x20", 4096, nil, 0, api.ErrShort},
	} {
		if l, n, e := frame.Split([]byte(x.b), x.limit); !sameFrames(l, x.want) || n != x.n || e != x.e {
			t.Errorf("Split(%q, %d): %q, %d, %d, not %q, %d, %d", x.b, x.limit, l, n, e, x.want, x.n, x.e)
		}
	}
	for _, limit := range wrongLimits {
		for _, b := range []string{"", "\x01a", "\x00\x80\x00"} {
			if l, n, e := frame.Split([]byte(b), limit); len(l) != 0 || n != 0 || e != api.ErrArg {
				t.Errorf("Split(%q, %d): %q, %d, %d", b, limit, l, n, e)
			}
		}
	}
}

// TestManyFrames: there are as many frames as there are, of all lengths.
func TestManyFrames(t *testing.T) {
	var all []byte
	var want [][]byte
	total := 0
	for n := range 4097 {
		if n > 200 && n%97 != 0 && n != 4096 {
			continue
		}
		b := bytes.Repeat([]byte{byte(n)}, n)
		laid, _ := frame.Wrap(b, 4096)
		all = append(all, laid...)
		want = append(want, b)
		total += n
	}
	if l, n, e := frame.Split(all, 4096); !sameFrames(l, want) || n != len(want) || e != api.OK {
		t.Errorf("Split of many: %d, %d, %d", len(l), n, e)
	}
	for _, step := range []int{1, 2, 3, 1000, 4097, len(all)} {
		a := make1(t, 4096)
		var got [][]byte
		for chunk := range slices.Chunk(all, step) {
			l, e := a.Feed(chunk)
			if e != api.OK {
				t.Fatalf("Feed of many: %d", e)
			}
			got = append(got, l...)
		}
		if !sameFrames(got, want) || stateOf(a) != (state{total: total}) {
			t.Errorf("Feed of many, by %d: %d, %v", step, len(got), stateOf(a))
		}
	}
}

// fed is what comes of chunks: all frames, the last error that isn't ErrState, and what the assembler tells then.
func fed(t *testing.T, limit int, chunks [][]byte) ([][]byte, api.Errno, state) {
	t.Helper()
	a := make1(t, limit)
	var all [][]byte
	for _, c := range chunks {
		broken := a.Fault() != api.OK
		l, e := a.Feed(c)
		if broken && (e != api.ErrState || len(l) != 0) || !broken && e != a.Fault() {
			t.Fatalf("Feed(%v): %v, %d, of fault %d", c, l, e, a.Fault())
		}
		all = append(all, l...)
	}
	return all, a.Fault(), stateOf(a)
}

// cuts hands on all ways to cut bytes into chunks.
func cuts(b []byte, do func([][]byte)) {
	for mask := range 1 << max(len(b)-1, 0) {
		var chunks [][]byte
		from := 0
		for i := 1; i <= len(b); i++ {
			if i == len(b) || mask>>(i-1)&1 == 1 {
				chunks = append(chunks, b[from:i], nil)
				from = i
			}
		}
		do(chunks)
	}
}

// TestChunksAreAllOne goes through all short strings of bytes that matter, cut in all ways: the frames are the same, and as Split tells.
func TestChunksAreAllOne(t *testing.T) {
	var grow func(b []byte)
	grow = func(b []byte) {
		want, e, s := fed(t, 2, [][]byte{b})
		cuts(b, func(chunks [][]byte) {
			if l, e2, s2 := fed(t, 2, chunks); !sameFrames(l, want) || e2 != e || s2 != s {
				t.Fatalf("%v: %v, %d, %v, not %v, %d, %v", chunks, l, e2, s2, want, e, s)
			}
		})
		wantAsSplit(t, b, 2, want, e, s)
		if len(b) == 6 {
			return
		}
		for _, c := range []byte{0, 1, 2, 3, 128} {
			grow(append(slices.Clone(b), c))
		}
	}
	grow(nil)
}

// wantAsSplit holds what an assembler told of bytes against what Split tells of them.
func wantAsSplit(t *testing.T, b []byte, limit int, want [][]byte, e api.Errno, s state) {
	t.Helper()
	l, n, se := frame.Split(b, limit)
	if se == api.OK {
		if e != api.OK || !sameFrames(l, want) || n != len(want) || s.buffered != 0 || s.need != 0 {
			t.Fatalf("Split(%v): %v, %d, OK, but Feed: %v, %d, %v", b, l, n, want, e, s)
		}
		return
	}
	ahead, _, oe := frame.Split(b[:n], limit)
	if oe != api.OK || !sameFrames(ahead, want) || len(l) != 0 {
		t.Fatalf("Split(%v): %v, %d, %d, but Feed: %v", b, l, n, se, want)
	}
	if se == api.ErrShort {
		if e != api.OK || s.buffered != len(b)-n || s.need < 1 {
			t.Fatalf("Split(%v): %d, ErrShort, but Feed: %d, %v", b, n, e, s)
		}
	} else if e != se || s.buffered != 0 || s.need != 0 {
		t.Fatalf("Split(%v): %d, %d, but Feed: %d, %v", b, n, se, e, s)
	}
}

// TestMemory: what is handed in is neither changed nor kept, what is answered is new memory, each frame of its own.
func TestMemory(t *testing.T) {
	room := []byte("\x02ab\x02cd\x02e###")
	chunk := room[:8]
	a := make1(t, 5)
	l, _ := a.Feed(chunk)
	_ = append(l[0], 'z', 'z', 'z')
	if string(room) != "\x02ab\x02cd\x02e###" || !sameFrames(l, frames("ab", "cd")) {
		t.Errorf("Feed: %q, %q", room, l)
	}
	l[0][0], l[1][1] = 'y', 'y'
	if string(room) != "\x02ab\x02cd\x02e###" {
		t.Errorf("a frame is the chunk: %q", room)
	}
	for i := range chunk {
		chunk[i] = 128
	}
	wantFeed(t, a, "f", frames("ef"), api.OK, state{total: 6})
	b := []byte("\x01a\x01b#")
	two, _, _ := frame.Split(b[:4], 5)
	_ = append(two[0], 'z', 'z')
	two[1][0] = 'y'
	if string(b) != "\x01a\x01b#" {
		t.Errorf("Split: %q", b)
	}
	laid, _ := frame.Wrap(b[1:2], 5)
	laid[1] = 'y'
	if string(b) != "\x01a\x01b#" {
		t.Errorf("Wrap: %q", b)
	}
}

// TestHeldIsItsOwn: bytes held of one chunk don't change with the next chunk's frames.
func TestHeldIsItsOwn(t *testing.T) {
	a := make1(t, 5)
	wantFeed(t, a, "\x03ab", nil, api.OK, state{buffered: 3, need: 1})
	l, _ := a.Feed([]byte("c\x03d"))
	l[0][0] = 'x'
	_ = append(l[0], "yyyyyyyy"...)
	wantFeed(t, a, "ef", frames("def"), api.OK, state{total: 6})
	room := []byte("\x03gh###")
	if _, e := a.Feed(room[:2]); e != api.OK {
		t.Errorf("Feed: %d", e)
	}
	room[0], room[1] = 0, 0
	wantFeed(t, a, "ij", frames("gij"), api.OK, state{total: 9})
	if string(room) != "\x00\x00h###" {
		t.Errorf("a chunk's spare room is changed: %q", room)
	}
	other := make1(t, 5)
	wantFeed(t, other, "\x03g", nil, api.OK, state{buffered: 2, need: 2})
	if s := stateOf(a); s != (state{total: 9}) {
		t.Errorf("an assembler hangs on another: %v", s)
	}
}
