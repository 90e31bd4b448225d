package queue_test

import (
	"math"
	"slices"
	"testing"

	"flange/api"
	"flange/queue"
)

// with is a queue of these things, which has no room for more.
func with[T any](t *testing.T, l ...T) *queue.Queue[T] {
	t.Helper()
	q := made[T](t, len(l))
	for i, x := range l {
		wantPut(t, q, x, i+1, api.OK)
	}
	return q
}

// made is an empty queue.
func made[T any](t *testing.T, limit int) *queue.Queue[T] {
	t.Helper()
	q, e := queue.New[T](limit)
	if q == nil || e != api.OK {
		t.Fatalf("New(%d): %v, %d", limit, q, e)
	}
	wantNumbers(t, q)
	return q
}

// wantNumbers holds which numbers wait.
func wantNumbers[T any](t *testing.T, q *queue.Queue[T], want ...int) {
	t.Helper()
	if l := q.Numbers(); !slices.Equal(l, want) || q.Len() != len(want) {
		t.Errorf("Numbers: %v, Len: %d; not %v", l, q.Len(), want)
	}
}

func wantPut[T any](t *testing.T, q *queue.Queue[T], x T, number int, want api.Errno) {
	t.Helper()
	if n, e := q.Put(x); n != number || e != want {
		t.Errorf("Put(%v): %d, %d; not %d, %d", x, n, e, number, want)
	}
}

// wantFirst holds the first one: of the number 0 there is none.
func wantFirst[T comparable](t *testing.T, q *queue.Queue[T], want T, number int) {
	t.Helper()
	if x, n, ok := q.First(); x != want || n != number || ok != (number > 0) {
		t.Errorf("First: %v, %d, %t; not %v, %d", x, n, ok, want, number)
	}
}

// wantTake holds the first one, and takes it: of the number 0 there is none.
func wantTake[T comparable](t *testing.T, q *queue.Queue[T], want T, number int) {
	t.Helper()
	wantFirst(t, q, want, number)
	if x, n, ok := q.Take(); x != want || n != number || ok != (number > 0) {
		t.Errorf("Take: %v, %d, %t; not %v, %d", x, n, ok, want, number)
	}
}

func wantDrop[T comparable](t *testing.T, q *queue.Queue[T], n int, want T, some bool) {
	t.Helper()
	if x, ok := q.Drop(n); x != want || ok != some {
		t.Errorf("Drop(%d): %v, %t; not %v, %t", n, x, ok, want, some)
	}
}

func wantClear[T comparable](t *testing.T, q *queue.Queue[T], want ...T) {
	t.Helper()
	if l := q.Clear(); !slices.Equal(l, want) {
		t.Errorf("Clear: %v, not %v", l, want)
	}
	wantNumbers(t, q)
}

func TestNew(t *testing.T) {
	for _, limit := range []int{-1, -2, 1001, 1002, math.MinInt, math.MaxInt} {
		if q, e := queue.New[int](limit); q != nil || e != api.ErrArg {
			t.Errorf("New(%d): %v, %d", limit, q, e)
		}
	}
	for _, limit := range []int{0, 1, 2, 8, 999, 1000} {
		q := made[int](t, limit)
		wantTake(t, q, 0, 0)
		wantDrop(t, q, 0, 0, false)
		wantDrop(t, q, 1, 0, false)
		wantClear(t, q)
		for i := range limit {
			wantPut(t, q, -i, i+1, api.OK)
		}
		wantPut(t, q, 5, 0, api.ErrFull)
		if q.Len() != limit {
			t.Errorf("Len: %d, not %d", q.Len(), limit)
		}
		// In the order in which they were put in.
		for i := range limit {
			wantTake(t, q, -i, i+1)
		}
		wantTake(t, q, 0, 0)
		wantNumbers(t, q)
	}
}

// TestTwo: two queues have nothing in common.
func TestTwo(t *testing.T) {
	a, b := made[string](t, 2), made[string](t, 2)
	wantPut(t, a, "x", 1, api.OK)
	wantNumbers(t, b)
	wantPut(t, b, "y", 1, api.OK)
	wantPut(t, b, "z", 2, api.OK)
	wantTake(t, a, "x", 1)
	wantNumbers(t, b, 1, 2)
}

func TestPut(t *testing.T) {
	q := made[string](t, 3)
	wantPut(t, q, "a", 1, api.OK)
	wantPut(t, q, "", 2, api.OK)
	wantPut(t, q, "a", 3, api.OK)
	wantPut(t, q, "d", 0, api.ErrFull)
	wantNumbers(t, q, 1, 2, 3)
	// One that wasn't taken has had no number.
	wantTake(t, q, "a", 1)
	wantPut(t, q, "e", 4, api.OK)
	wantPut(t, q, "f", 0, api.ErrFull)
	wantNumbers(t, q, 2, 3, 4)
	wantTake(t, q, "", 2)
	wantTake(t, q, "a", 3)
	wantTake(t, q, "e", 4)
	wantTake(t, q, "", 0)
	// Numbers go on where nothing waits any more.
	wantPut(t, q, "g", 5, api.OK)
	wantNumbers(t, q, 5)
}

func TestNone(t *testing.T) {
	q := made[int](t, 0)
	for range 3 {
		wantPut(t, q, 1, 0, api.ErrFull)
		wantTake(t, q, 0, 0)
		wantClear(t, q)
	}
}

func TestFirst(t *testing.T) {
	q := with(t, 7, 8)
	for range 3 {
		wantFirst(t, q, 7, 1)
	}
	wantNumbers(t, q, 1, 2)
	wantDrop(t, q, 1, 7, true)
	wantFirst(t, q, 8, 2)
	wantDrop(t, q, 2, 8, true)
	wantFirst(t, q, 0, 0)
}

func TestDrop(t *testing.T) {
	// The document's example.
	q := with(t, 7, 8)
	wantDrop(t, q, 1, 7, true)
	wantTake(t, q, 8, 2)

	q = with(t, 10, 20, 30, 40, 50)
	for _, n := range []int{0, -1, 6, 10, math.MinInt, math.MaxInt} {
		wantDrop(t, q, n, 0, false)
	}
	wantNumbers(t, q, 1, 2, 3, 4, 5)
	wantDrop(t, q, 3, 30, true)
	wantDrop(t, q, 3, 0, false)
	wantNumbers(t, q, 1, 2, 4, 5)
	wantDrop(t, q, 5, 50, true)
	wantNumbers(t, q, 1, 2, 4)
	// There is room again, and the number of what is gone isn't given anew.
	wantPut(t, q, 60, 6, api.OK)
	wantPut(t, q, 70, 7, api.OK)
	wantPut(t, q, 80, 0, api.ErrFull)
	wantNumbers(t, q, 1, 2, 4, 6, 7)
	wantTake(t, q, 10, 1)
	wantDrop(t, q, 1, 0, false)
	wantDrop(t, q, 2, 20, true)
	wantDrop(t, q, 7, 70, true)
	wantTake(t, q, 40, 4)
	wantTake(t, q, 60, 6)
	wantTake(t, q, 0, 0)
	wantDrop(t, q, 6, 0, false)
}

func TestClear(t *testing.T) {
	q := with(t, "a", "b", "c", "d")
	wantDrop(t, q, 2, "b", true)
	wantClear(t, q, "a", "c", "d")
	wantClear(t, q)
	wantTake(t, q, "", 0)
	wantDrop(t, q, 1, "", false)
	// Numbers go on, and the limit is as it was.
	for i := range 4 {
		wantPut(t, q, "x", 5+i, api.OK)
	}
	wantPut(t, q, "y", 0, api.ErrFull)
	wantNumbers(t, q, 5, 6, 7, 8)
	wantClear(t, q, "x", "x", "x", "x")
}

func TestNil(t *testing.T) {
	var q *queue.Queue[string]
	wantPut(t, q, "x", 0, api.ErrState)
	wantNumbers(t, q)
	wantTake(t, q, "", 0)
	wantDrop(t, q, 0, "", false)
	wantDrop(t, q, 1, "", false)
	wantClear(t, q)
}

// TestAnyType: a queue is of any type, and gives out what was put in.
func TestAnyType(t *testing.T) {
	type pair struct {
		a int
		b string
	}
	pairs := with(t, pair{1, "x"}, pair{}, pair{2, "y"})
	wantDrop(t, pairs, 3, pair{2, "y"}, true)
	wantTake(t, pairs, pair{1, "x"}, 1)
	wantTake(t, pairs, pair{}, 2)
	wantTake(t, pairs, pair{}, 0)

	one := 1
	pointers := with(t, &one, nil)
	wantTake(t, pointers, &one, 1)
	wantTake(t, pointers, nil, 2)
	wantTake(t, pointers, nil, 0)

	anything := with[any](t, 1, "x", nil, pair{1, "x"})
	wantDrop(t, anything, 4, any(pair{1, "x"}), true)
	wantDrop(t, anything, 3, nil, true)
	wantClear[any](t, anything, 1, "x")

	nothing := with(t, struct{}{}, struct{}{})
	wantTake(t, nothing, struct{}{}, 1)
	wantClear(t, nothing, struct{}{})

	// What can't be held against another one.
	lists := with(t, []int{1, 2}, nil)
	if l, n, ok := lists.Take(); !slices.Equal(l, []int{1, 2}) || n != 1 || !ok {
		t.Errorf("Take: %v, %d, %t", l, n, ok)
	}
	if l, ok := lists.Drop(2); l != nil || !ok {
		t.Errorf("Drop: %v, %t", l, ok)
	}
	calls := with(t, func() int { return 7 })
	if f, ok := calls.Drop(1); !ok || f() != 7 {
		t.Error("Drop of a function")
	}
}

// TestMemory: what is answered is new memory, and what is done to it changes nothing in the queue.
func TestMemory(t *testing.T) {
	q := made[int](t, 10)
	for i := range 6 {
		wantPut(t, q, i, i+1, api.OK)
	}
	n := q.Numbers()
	spare := append(n, 99)
	clear(spare)
	wantNumbers(t, q, 1, 2, 3, 4, 5, 6)
	wantDrop(t, q, 2, 1, true)
	n = q.Numbers()
	wantTake(t, q, 0, 1)
	wantDrop(t, q, 4, 3, true)
	if !slices.Equal(n, []int{1, 3, 4, 5, 6}) {
		t.Errorf("Numbers: %v", n)
	}
	l := q.Clear()
	all := append(l, 99)
	wantPut(t, q, 7, 7, api.OK)
	wantPut(t, q, 8, 8, api.OK)
	if !slices.Equal(all, []int{2, 4, 5, 99}) {
		t.Errorf("Clear: %v", all)
	}
	clear(all)
	wantClear(t, q, 7, 8)
}

// TestGone: what is taken out leaves nothing behind by which what comes later is another one.
func TestGone(t *testing.T) {
	q := made[int](t, 1)
	for i := range 10000 {
		wantPut(t, q, i, i+1, api.OK)
		wantPut(t, q, -1, 0, api.ErrFull)
		if i%2 == 0 {
			wantTake(t, q, i, i+1)
		} else {
			wantDrop(t, q, i+1, i, true)
		}
	}
	wantNumbers(t, q)
}
