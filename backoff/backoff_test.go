package backoff_test

import (
	"math"
	"testing"

	"flange/api"
	"flange/backoff"
)

// wrong is rules that may not be.
var wrong = []backoff.Rule{
	{},
	{Base: 0, Cap: 5, Tries: 4, Calm: 10},
	{Base: -1, Cap: 5, Tries: 4, Calm: 10},
	{Base: math.MinInt, Cap: 5, Tries: 4, Calm: 10},
	{Base: 6, Cap: 5, Tries: 4, Calm: 10},
	{Base: 1000001, Cap: 1000001, Tries: 4, Calm: 10},
	{Base: 1000001, Cap: 1000000, Tries: 4, Calm: 10},
	{Base: math.MaxInt, Cap: math.MaxInt, Tries: 4, Calm: 10},
	{Base: 1, Cap: 1000001, Tries: 4, Calm: 10},
	{Base: 1, Cap: math.MaxInt, Tries: 4, Calm: 10},
	{Base: 1, Cap: 0, Tries: 4, Calm: 10},
	{Base: 0, Cap: 0, Tries: 4, Calm: 10},
	{Base: -2, Cap: -1, Tries: 4, Calm: 10},
	{Base: 2, Cap: 5, Tries: 0, Calm: 10},
	{Base: 2, Cap: 5, Tries: -1, Calm: 10},
	{Base: 2, Cap: 5, Tries: 101, Calm: 10},
	{Base: 2, Cap: 5, Tries: math.MaxInt, Calm: 10},
	{Base: 2, Cap: 5, Tries: math.MinInt, Calm: 10},
	{Base: 2, Cap: 5, Tries: 4, Calm: 0},
	{Base: 2, Cap: 5, Tries: 4, Calm: -1},
	{Base: 2, Cap: 5, Tries: 4, Calm: 1000001},
	{Base: 2, Cap: 5, Tries: 4, Calm: math.MaxInt},
}

// made is a state of a rule.
func made(t *testing.T, r backoff.Rule) *backoff.State {
	t.Helper()
	s, e := backoff.New(r)
	if s == nil || e != api.OK {
		t.Fatalf("New(%v): %v, %d", r, s, e)
	}
	wantState(t, s, 0, false)
	return s
}

// wantState holds how many failures there were in a row, and whether it is given up.
func wantState(t *testing.T, s *backoff.State, count int, lost bool) {
	t.Helper()
	if s.Count() != count || s.Lost() != lost {
		t.Errorf("Count: %d, Lost: %t; not %d, %t", s.Count(), s.Lost(), count, lost)
	}
}

func wantStart(t *testing.T, s *backoff.State, now int, want api.Errno) {
	t.Helper()
	if e := s.Start(now); e != want {
		t.Errorf("Start(%d): %d, not %d", now, e, want)
	}
}

// wantFail fails at a tick: the wait is 0, if it isn't answered by waiting.
func wantFail(t *testing.T, s *backoff.State, now, wait int) {
	t.Helper()
	if n, ok := s.Fail(now); n != wait || ok != (wait > 0) {
		t.Errorf("Fail(%d): %d, %t; not %d", now, n, ok, wait)
	}
}

func wantReset(t *testing.T, s *backoff.State, want bool) {
	t.Helper()
	if got := s.Reset(); got != want {
		t.Errorf("Reset: %t", got)
	}
	wantState(t, s, 0, false)
}

func TestRight(t *testing.T) {
	for _, r := range []backoff.Rule{
		{Base: 1, Cap: 1, Tries: 1, Calm: 1},
		{Base: 2, Cap: 5, Tries: 4, Calm: 10},
		{Base: 5, Cap: 5, Tries: 4, Calm: 10},
		{Base: 1, Cap: 1000000, Tries: 100, Calm: 1000000},
		{Base: 1000000, Cap: 1000000, Tries: 100, Calm: 1000000},
		{Base: 1000000, Cap: 1000000, Tries: 1, Calm: 1},
	} {
		if !backoff.Right(r) {
			t.Errorf("Right(%v): false", r)
		}
		made(t, r)
	}
	for _, r := range wrong {
		if backoff.Right(r) {
			t.Errorf("Right(%v): true", r)
		}
		if s, e := backoff.New(r); s != nil || e != api.ErrArg {
			t.Errorf("New(%v): %v, %d", r, s, e)
		}
		for _, n := range []int{0, 1, 2, math.MaxInt} {
			if d, sum := backoff.Delay(r, n), backoff.Total(r, n); d != 0 || sum != 0 {
				t.Errorf("Delay(%v, %d): %d; Total: %d", r, n, d, sum)
			}
		}
	}
}

func TestDelay(t *testing.T) {
	for _, c := range []struct {
		base, cap int
		want      []int
	}{
		{2, 10, []int{2, 4, 8, 10, 10, 10}},
		{2, 8, []int{2, 4, 8, 8, 8}},
		{2, 5, []int{2, 4, 5, 5}},
		{1, 1, []int{1, 1, 1}},
		{1, 2, []int{1, 2, 2}},
		{7, 7, []int{7, 7}},
		{7, 8, []int{7, 8, 8}},
		{3, 1000, []int{3, 6, 12, 24, 48, 96, 192, 384, 768, 1000, 1000}},
		{1000000, 1000000, []int{1000000, 1000000}},
		{999999, 1000000, []int{999999, 1000000, 1000000}},
		{500000, 1000000, []int{500000, 1000000, 1000000}},
	} {
		r := backoff.Rule{Base: c.base, Cap: c.cap, Tries: 3, Calm: 1}
		sum := 0
		for i, want := range c.want {
			sum += want
			if d, all := backoff.Delay(r, i+1), backoff.Total(r, i+1); d != want || all != sum {
				t.Errorf("Base %d, Cap %d: Delay(%d): %d, not %d; Total: %d, not %d", c.base, c.cap, i+1, d, want, all, sum)
			}
		}
		for _, n := range []int{64, 65, 101, 1 << 40, math.MaxInt} {
			if d := backoff.Delay(r, n); d != c.cap {
				t.Errorf("Base %d, Cap %d: Delay(%d): %d", c.base, c.cap, n, d)
			}
		}
		for _, n := range []int{0, -1, math.MinInt} {
			if d, all := backoff.Delay(r, n), backoff.Total(r, n); d != 0 || all != 0 {
				t.Errorf("Base %d, Cap %d: Delay(%d): %d; Total: %d", c.base, c.cap, n, d, all)
			}
		}
	}
}

func TestTotalFar(t *testing.T) {
	const last = api.MaxTick
	for _, c := range []struct{ base, cap, n, want int }{
		{1, 1, 1 << 40, 1 << 40},
		{1, 1, last - 1, last - 1},
		{1, 1, last, last},
		{1, 1, last + 1, last},
		{1, 1, math.MaxInt, last},
		{1, 2, 1 << 59, last - 1},
		{1, 2, 1<<59 + 1, last},
		{2, 4, 1 << 58, last - 2},
		{2, 4, 1<<58 + 1, last},
		{1, 3, 1 << 50, 3<<50 - 3},
		{3, 3, last / 3, last - 1},
		{3, 3, last/3 + 1, last},
		{2, 5, 4, 16},
		{1000000, 1000000, 1000000, 1000000000000},
		// All of them, one by one, would be a number that is beyond all ints.
		{1000000, 1000000, 1 << 50, last},
		{1, 1000000, math.MaxInt, last},
		{1000000, 1000000, math.MaxInt, last},
		{1, 1 << 19, 1 << 45, last},
	} {
		r := backoff.Rule{Base: c.base, Cap: c.cap, Tries: 1, Calm: 1}
		if got := backoff.Total(r, c.n); got != c.want {
			t.Errorf("Base %d, Cap %d: Total(%d): %d, not %d", c.base, c.cap, c.n, got, c.want)
		}
	}
}

func TestFail(t *testing.T) {
	s := made(t, backoff.Rule{Base: 2, Cap: 10, Tries: 6, Calm: 100})
	for i, wait := range []int{2, 4, 8, 10, 10} {
		wantStart(t, s, i, api.OK)
		wantState(t, s, i, false)
		wantFail(t, s, i, wait)
		wantState(t, s, i+1, false)
	}
	wantFail(t, s, 5, 0)
	wantState(t, s, 6, true)
}

// TestFailCalm: more than Calm ticks behind the last start it is the first failure again.
func TestFailCalm(t *testing.T) {
	r := backoff.Rule{Base: 1, Cap: 100, Tries: 10, Calm: 10}
	s := made(t, r)
	// It counts as started at the tick 0.
	wantFail(t, s, 1, 1)
	wantFail(t, s, 10, 2)
	wantFail(t, s, 11, 1)
	wantFail(t, s, 12, 1)
	wantState(t, s, 1, false)
	wantFail(t, s, 10, 2)
	wantStart(t, s, 50, api.OK)
	wantState(t, s, 2, false)
	wantFail(t, s, 60, 4)
	wantFail(t, s, 61, 1)
	wantFail(t, s, 55, 2)
	// A failure may come ahead of the start.
	wantFail(t, s, 3, 4)
	wantFail(t, s, math.MinInt, 8)
	// The last start counts, even if it is an earlier tick.
	wantStart(t, s, 60, api.OK)
	wantStart(t, s, 20, api.OK)
	wantFail(t, s, 31, 1)
	wantFail(t, s, 30, 2)
	wantStart(t, s, 60, api.OK)
	wantFail(t, s, 70, 4)
}

func TestFailClipped(t *testing.T) {
	r := backoff.Rule{Base: 1, Cap: 100, Tries: 10, Calm: 10}
	s := made(t, r)
	wantFail(t, s, 0, 1)
	wantStart(t, s, -1000, api.OK)
	wantFail(t, s, 10, 2)
	wantFail(t, s, 11, 1)
	wantStart(t, s, math.MinInt, api.OK)
	wantFail(t, s, math.MinInt, 2)
	wantFail(t, s, math.MaxInt, 1)
	wantStart(t, s, api.MaxTick-10, api.OK)
	wantFail(t, s, math.MaxInt, 2)
	wantFail(t, s, api.MaxTick+1, 4)
	wantStart(t, s, api.MaxTick-11, api.OK)
	wantFail(t, s, math.MaxInt, 1)
	wantStart(t, s, math.MaxInt, api.OK)
	wantFail(t, s, api.MaxTick, 2)
	wantFail(t, s, -1, 4)
}

// TestCalmGreatest is of the greatest calm.
func TestCalmGreatest(t *testing.T) {
	s := made(t, backoff.Rule{Base: 1, Cap: 4, Tries: 100, Calm: 1000000})
	wantFail(t, s, 1000000, 1)
	wantFail(t, s, 1000000, 2)
	wantFail(t, s, 1000001, 1)
}

func TestLost(t *testing.T) {
	s := made(t, backoff.Rule{Base: 2, Cap: 5, Tries: 2, Calm: 10})
	wantStart(t, s, 3, api.OK)
	wantFail(t, s, 4, 2)
	wantFail(t, s, 4, 0)
	// Given up it stays so, and counts no more, however late a failure comes.
	for _, now := range []int{4, 5, 1000, math.MaxInt, math.MinInt} {
		wantState(t, s, 2, true)
		wantStart(t, s, now, api.ErrState)
		wantFail(t, s, now, 0)
	}
	wantState(t, s, 2, true)
	// Till it is reset. What it was refused to start at doesn't count.
	wantReset(t, s, true)
	wantFail(t, s, 13, 2)
	wantReset(t, s, true)
	wantFail(t, s, 13, 2)
	wantFail(t, s, 14, 2)
	wantFail(t, s, 13, 0)
	wantState(t, s, 2, true)
}

// TestLostAtOnce is of one try, which may come late.
func TestLostAtOnce(t *testing.T) {
	for _, now := range []int{0, 10, 11, math.MaxInt} {
		s := made(t, backoff.Rule{Base: 2, Cap: 5, Tries: 1, Calm: 10})
		wantFail(t, s, now, 0)
		wantState(t, s, 1, true)
		wantStart(t, s, now, api.ErrState)
	}
}

func TestReset(t *testing.T) {
	s := made(t, backoff.Rule{Base: 2, Cap: 50, Tries: 5, Calm: 10})
	wantReset(t, s, false)
	wantStart(t, s, 20, api.OK)
	wantReset(t, s, false)
	wantFail(t, s, 21, 2)
	wantFail(t, s, 21, 4)
	wantReset(t, s, true)
	wantReset(t, s, false)
	// The last start is what it was.
	wantFail(t, s, 30, 2)
	wantFail(t, s, 30, 4)
	wantFail(t, s, 31, 2)
}

func TestNil(t *testing.T) {
	var s *backoff.State
	for _, now := range []int{0, 1, -1} {
		wantStart(t, s, now, api.ErrState)
		wantFail(t, s, now, 0)
	}
	wantState(t, s, 0, false)
	wantReset(t, s, false)
}

// TestApart: two states of one rule have nothing in common, and a rule is a copy.
func TestApart(t *testing.T) {
	r := backoff.Rule{Base: 2, Cap: 5, Tries: 3, Calm: 10}
	a, b := made(t, r), made(t, r)
	r = backoff.Rule{Base: 1, Cap: 1, Tries: 1, Calm: 1}
	wantFail(t, a, 1, 2)
	wantFail(t, a, 1, 4)
	wantState(t, b, 0, false)
	wantStart(t, b, 100, api.OK)
	wantFail(t, a, 1, 0)
	wantFail(t, b, 110, 2)
	wantFail(t, b, 110, 4)
	if !backoff.Right(r) {
		t.Errorf("Right(%v): false", r)
	}
}
