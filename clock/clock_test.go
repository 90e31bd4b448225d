package clock_test

import (
	"math"
	"slices"
	"strconv"
	"strings"
	"testing"

	"flange/api"
	"flange/clock"
)

// with is alarms at a tick, of names and of how many ticks behind it they ring.
func with(t *testing.T, now int, names string, in ...int) *clock.Alarms {
	t.Helper()
	a := clock.New()
	a.Tick(now)
	for i, name := range strings.Fields(names) {
		if e := a.Set(name, in[i]); e != api.OK {
			t.Fatalf("Set(%q, %d): %d", name, in[i], e)
		}
	}
	return a
}

// full is alarms of as many names as may be: those of 0 to 31, each ringing that many ticks from 100 on.
func full(t *testing.T) *clock.Alarms {
	t.Helper()
	a := clock.New()
	for i := range api.MaxEntries {
		if e := a.Set(strconv.Itoa(i), 100+i); e != api.OK {
			t.Fatalf("Set of alarm %d: %d", i, e)
		}
	}
	return a
}

func wantNext(t *testing.T, a *clock.Alarms, name string, at int, ok bool) {
	t.Helper()
	if n, x, is := a.Next(); n != name || x != at || is != ok {
		t.Errorf("Next: %q, %d, %t; not %q, %d, %t", n, x, is, name, at, ok)
	}
}

func wantAt(t *testing.T, a *clock.Alarms, name string, at int, ok bool) {
	t.Helper()
	if x, is := a.At(name); x != at || is != ok {
		t.Errorf("At(%q): %d, %t; not %d, %t", name, x, is, at, ok)
	}
}

// wantTick lets ticks go by: the names are those that ring.
func wantTick(t *testing.T, a *clock.Alarms, n int, names ...string) {
	t.Helper()
	if l := a.Tick(n); !slices.Equal(l, names) {
		t.Errorf("Tick(%d): %q, not %q", n, l, names)
	}
}

func wantSet(t *testing.T, a *clock.Alarms, name string, in int, want api.Errno) {
	t.Helper()
	if e := a.Set(name, in); e != want {
		t.Errorf("Set(%q, %d): %d, not %d", name, in, e, want)
	}
}

// wantNow holds the tick, and how many alarms there are.
func wantNow(t *testing.T, a *clock.Alarms, now, many int) {
	t.Helper()
	if a.Now() != now || a.Len() != many {
		t.Errorf("Now: %d, Len: %d; not %d, %d", a.Now(), a.Len(), now, many)
	}
}

func TestClip(t *testing.T) {
	for _, c := range []struct{ n, want int }{
		{0, 0}, {1, 1}, {7, 7}, {-1, 0}, {math.MinInt, 0},
		{1<<60 - 1, 1<<60 - 1}, {1 << 60, 1 << 60}, {1<<60 + 1, 1 << 60}, {math.MaxInt, 1 << 60},
	} {
		if got := clock.Clip(c.n); got != c.want {
			t.Errorf("Clip(%d): %d, not %d", c.n, got, c.want)
		}
	}
}

func TestAdd(t *testing.T) {
	const last = api.MaxTick
	for _, c := range []struct{ a, b, want int }{
		{0, 0, 0}, {1, 0, 1}, {2, 3, 5}, {last, 0, last}, {last, 1, last}, {last, last, last},
		{last - 1, 1, last}, {last - 2, 1, last - 1}, {last / 2, last / 2, last}, {last / 2, last/2 - 1, last - 1},
		// Each is brought to a tick first.
		{-5, 3, 3}, {-5, -3, 0}, {math.MinInt, 4, 4}, {math.MinInt, math.MinInt, 0}, {math.MinInt, math.MaxInt, last},
		{last + 1, -1, last}, {last + 5, 0, last}, {math.MaxInt, 1, last}, {math.MaxInt, math.MaxInt, last},
	} {
		if x, y := clock.Add(c.a, c.b), clock.Add(c.b, c.a); x != c.want || y != c.want {
			t.Errorf("Add(%d, %d): %d, and the other way round %d; not %d", c.a, c.b, x, y, c.want)
		}
	}
}

func TestNew(t *testing.T) {
	a, b := clock.New(), clock.New()
	wantNow(t, a, 0, 0)
	wantNext(t, a, "", 0, false)
	wantAt(t, a, "", 0, false)
	wantTick(t, a, 5)
	wantNow(t, a, 5, 0)
	// Two of them have nothing in common.
	wantSet(t, a, "x", 1, api.OK)
	wantNow(t, b, 0, 0)
	wantAt(t, b, "x", 0, false)
}

func TestSet(t *testing.T) {
	a := with(t, 10, "x y", 3, 5)
	wantNow(t, a, 10, 2)
	wantAt(t, a, "x", 13, true)
	wantAt(t, a, "y", 15, true)
	wantAt(t, a, "z", 0, false)
	wantAt(t, a, "", 0, false)
	// One of that name is gone, whether it rang later or sooner.
	wantSet(t, a, "x", 7, api.OK)
	wantAt(t, a, "x", 17, true)
	wantTick(t, a, 2)
	wantSet(t, a, "x", 1, api.OK)
	wantAt(t, a, "x", 13, true)
	wantNow(t, a, 12, 2)
	wantTick(t, a, 100, "x", "y")
	wantNow(t, a, 112, 0)
}

// TestSetNames: a name is any text.
func TestSetNames(t *testing.T) {
	names := []string{"", "\x00", " ", "A", "a", "a\x00", "aa", "\u00e9", "\xff", strings.Repeat("a", 1000)}
	a := clock.New()
	for i, name := range names {
		wantSet(t, a, name, i+1, api.OK)
	}
	for i, name := range names {
		wantAt(t, a, name, i+1, true)
	}
	wantTick(t, a, len(names), names...)
}

func TestSetFar(t *testing.T) {
	a := with(t, 4, "now far last one", 0, math.MaxInt, api.MaxTick-4, api.MaxTick-5)
	wantAt(t, a, "now", 4, true)
	wantAt(t, a, "far", api.MaxTick, true)
	wantAt(t, a, "last", api.MaxTick, true)
	wantAt(t, a, "one", api.MaxTick-1, true)
	wantTick(t, a, api.MaxTick-5, "now", "one")
	wantNow(t, a, api.MaxTick-1, 2)
	wantTick(t, a, math.MaxInt, "far", "last")
	// It is the last tick: no later one comes, but alarms ring.
	wantNow(t, a, api.MaxTick, 0)
	wantSet(t, a, "y", 0, api.OK)
	wantSet(t, a, "x", 9, api.OK)
	wantAt(t, a, "x", api.MaxTick, true)
	wantNext(t, a, "x", api.MaxTick, true)
	wantTick(t, a, 1, "x", "y")
	wantNow(t, a, api.MaxTick, 0)
}

func TestSetWrong(t *testing.T) {
	a := with(t, 1, "x", 3)
	for _, in := range []int{-1, -2, math.MinInt} {
		wantSet(t, a, "x", in, api.ErrArg)
		wantSet(t, a, "y", in, api.ErrArg)
	}
	wantNow(t, a, 1, 1)
	wantAt(t, a, "x", 4, true)
	wantAt(t, a, "y", 0, false)
	wantTick(t, a, 9, "x")
}

func TestSetFull(t *testing.T) {
	a := full(t)
	wantSet(t, a, "x", 1, api.ErrFull)
	wantSet(t, a, "", 0, api.ErrFull)
	// What may not be is told ahead of it.
	wantSet(t, a, "x", -1, api.ErrArg)
	wantNow(t, a, 0, 32)
	wantAt(t, a, "x", 0, false)
	// One that is there isn't one of the others.
	wantSet(t, a, "31", 5, api.OK)
	wantNext(t, a, "31", 5, true)
	wantNow(t, a, 0, 32)
	if !a.Drop("7") {
		t.Error("Drop: false")
	}
	wantSet(t, a, "x", 6, api.OK)
	wantSet(t, a, "7", 6, api.ErrFull)
	wantTick(t, a, 6, "31", "x")
	wantSet(t, a, "7", 1, api.OK)
	wantSet(t, a, "x", 1, api.OK)
	wantSet(t, a, "y", 1, api.ErrFull)
	wantNow(t, a, 6, 32)
}

func TestDrop(t *testing.T) {
	a := with(t, 0, "x y", 3, 5)
	if a.Drop("z") || a.Drop("") || a.Len() != 2 {
		t.Error("Drop of none")
	}
	if !a.Drop("x") || a.Drop("x") || a.Len() != 1 {
		t.Error("Drop of one")
	}
	wantAt(t, a, "x", 0, false)
	wantNext(t, a, "y", 5, true)
	wantTick(t, a, 5, "y")
	if a.Drop("y") {
		t.Error("Drop of one that rang")
	}
	// Of a name again it is another alarm.
	wantSet(t, a, "x", 1, api.OK)
	wantAt(t, a, "x", 6, true)
}

func TestNext(t *testing.T) {
	for _, c := range []struct {
		names string
		in    []int
		want  string
		at    int
	}{
		{"x", []int{3}, "x", 13},
		{"x", []int{0}, "x", 10},
		{"a b c", []int{3, 2, 4}, "b", 12},
		{"a b c", []int{2, 3, 4}, "a", 12},
		{"a b c", []int{4, 3, 2}, "c", 12},
		{"c b a", []int{2, 2, 2}, "a", 12},
		{"b c a", []int{2, 2, 3}, "b", 12},
		{"aa a b", []int{2, 2, 2}, "a", 12},
		{"a B", []int{2, 2}, "B", 12},
		{"10 9", []int{2, 2}, "10", 12},
		{"\u00e9 \xff z", []int{2, 2, 2}, "z", 12},
		{"\xff \u00e9", []int{2, 2}, "\u00e9", 12},
		{"b a", []int{math.MaxInt, math.MaxInt}, "a", api.MaxTick},
	} {
		a := with(t, 10, c.names, c.in...)
		// It stays where it is.
		for range 2 {
			wantNext(t, a, c.want, c.at, true)
		}
		wantNow(t, a, 10, len(c.in))
	}
}

func TestTick(t *testing.T) {
	a := with(t, 0, "b a", 2, 2)
	wantTick(t, a, 2, "a", "b")
	wantNow(t, a, 2, 0)
	wantTick(t, a, 2)

	a = with(t, 10, "a b c d e", 5, 4, 5, 1, 6)
	wantTick(t, a, 3, "d")
	wantNow(t, a, 13, 4)
	wantAt(t, a, "d", 0, false)
	// By when they ring, then by names.
	wantTick(t, a, 2, "b", "a", "c")
	wantNow(t, a, 15, 1)
	wantNext(t, a, "e", 16, true)
	wantTick(t, a, 1, "e")
	wantNext(t, a, "", 0, false)

	a = with(t, 0, "10 9 aa a B \xff", 1, 1, 1, 1, 1, 1)
	wantTick(t, a, 1, "10", "9", "B", "a", "aa", "\xff")

	// What rings at once comes ahead of what rings later.
	a = with(t, 3, "a z b", 1, 0, 2)
	wantTick(t, a, math.MaxInt, "z", "a", "b")
	wantNow(t, a, api.MaxTick, 0)
}

// TestTickNone: below 1 nothing is, not even what would ring at once.
func TestTickNone(t *testing.T) {
	a := with(t, 3, "x y", 0, 1)
	for _, n := range []int{0, -1, math.MinInt} {
		wantTick(t, a, n)
		wantNow(t, a, 3, 2)
		wantAt(t, a, "x", 3, true)
		wantNext(t, a, "x", 3, true)
	}
	wantTick(t, a, 1, "x", "y")
}

// TestTickOrder: nothing hangs on how a map is gone through.
func TestTickOrder(t *testing.T) {
	var want []string
	for i := range api.MaxEntries {
		want = append(want, strconv.Itoa(i))
	}
	for range 50 {
		a := full(t)
		wantNext(t, a, "0", 100, true)
		wantTick(t, a, 131, want...)
	}
	slices.Sort(want)
	for range 50 {
		a := clock.New()
		for _, name := range want {
			wantSet(t, a, name, 7, api.OK)
		}
		wantNext(t, a, "0", 7, true)
		wantTick(t, a, 7, want...)
	}
}

func TestNil(t *testing.T) {
	var a *clock.Alarms
	wantSet(t, a, "x", 1, api.ErrState)
	wantSet(t, a, "x", -1, api.ErrState)
	wantNow(t, a, 0, 0)
	wantAt(t, a, "x", 0, false)
	wantNext(t, a, "", 0, false)
	wantTick(t, a, 1)
	wantTick(t, a, math.MinInt)
	wantNow(t, a, 0, 0)
	if a.Drop("x") {
		t.Error("Drop of nil")
	}
}

// TestMemory: what is answered is new memory.
func TestMemory(t *testing.T) {
	a := with(t, 0, "a b c", 1, 1, 2)
	l := a.Tick(1)
	kept := append(l, "spare")
	wantTick(t, a, 1, "c")
	if !slices.Equal(kept, []string{"a", "b", "spare"}) {
		t.Errorf("Tick: %q", kept)
	}
	wantSet(t, a, "a", 1, api.OK)
	clear(kept)
	wantNext(t, a, "a", 3, true)
	wantTick(t, a, 1, "a")
}
