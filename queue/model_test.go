package queue_test

import (
	"math/rand"
	"slices"
	"testing"

	"flange/api"
	"flange/queue"
)

// model is all that was ever put in, at its number less one, and which of these wait.
type model struct {
	limit int
	all   []string
	waits []bool
}

func (m *model) put(x string) (int, api.Errno) {
	if len(m.numbers()) == m.limit {
		return 0, api.ErrFull
	}
	m.all = append(m.all, x)
	m.waits = append(m.waits, true)
	return len(m.all), api.OK
}

func (m *model) numbers() []int {
	var l []int
	for i, w := range m.waits {
		if w {
			l = append(l, i+1)
		}
	}
	return l
}

func (m *model) drop(n int) (string, bool) {
	if !slices.Contains(m.numbers(), n) {
		return "", false
	}
	m.waits[n-1] = false
	return m.all[n-1], true
}

func (m *model) first() (string, int, bool) {
	l := m.numbers()
	if len(l) == 0 {
		return "", 0, false
	}
	return m.all[l[0]-1], l[0], true
}

func (m *model) take() (string, int, bool) {
	x, n, ok := m.first()
	m.drop(n)
	return x, n, ok
}

func (m *model) clear() []string {
	var l []string
	for {
		x, _, ok := m.take()
		if !ok {
			return l
		}
		l = append(l, x)
	}
}

// step does one thing to both.
func (m *model) step(t *testing.T, q *queue.Queue[string], r *rand.Rand) {
	t.Helper()
	switch r.Intn(20) {
	case 0:
		if got, want := q.Clear(), m.clear(); !slices.Equal(got, want) {
			t.Fatalf("Clear: %q, not %q", got, want)
		}
	case 1, 2, 3, 4:
		x, n, ok := q.Take()
		wantX, wantN, wantOK := m.take()
		if x != wantX || n != wantN || ok != wantOK {
			t.Fatalf("Take: %q, %d, %t; not %q, %d, %t", x, n, ok, wantX, wantN, wantOK)
		}
	case 5, 6, 7, 8, 9:
		n := r.Intn(len(m.all)+3) - 1
		x, ok := q.Drop(n)
		wantX, wantOK := m.drop(n)
		if x != wantX || ok != wantOK {
			t.Fatalf("Drop(%d): %q, %t; not %q, %t", n, x, ok, wantX, wantOK)
		}
	default:
		x := string(rune('a' + r.Intn(26)))
		n, e := q.Put(x)
		wantN, wantE := m.put(x)
		if n != wantN || e != wantE {
			t.Fatalf("Put: %d, %d; not %d, %d", n, e, wantN, wantE)
		}
	}
}

// agree holds all that a queue tells against the model.
func (m *model) agree(t *testing.T, q *queue.Queue[string]) {
	t.Helper()
	want := m.numbers()
	if got := q.Numbers(); !slices.Equal(got, want) || q.Len() != len(want) {
		t.Fatalf("Numbers: %v, Len: %d; not %v", got, q.Len(), want)
	}
	x, n, ok := q.First()
	if wantX, wantN, wantOK := m.first(); x != wantX || n != wantN || ok != wantOK {
		t.Fatalf("First: %q, %d, %t; not %q, %d, %t", x, n, ok, wantX, wantN, wantOK)
	}
}

// TestModel holds queues against the model, through very many steps.
func TestModel(t *testing.T) {
	r := rand.New(rand.NewSource(1))
	for limit := range 12 {
		for range 60 {
			q, e := queue.New[string](limit)
			if e != api.OK {
				t.Fatalf("New(%d): %d", limit, e)
			}
			m := &model{limit: limit}
			for range 150 {
				m.step(t, q, r)
				m.agree(t, q)
			}
		}
	}
}

// TestOrder: what was put in comes out in the same order, whatever is dropped in between.
func TestOrder(t *testing.T) {
	r := rand.New(rand.NewSource(2))
	for range 300 {
		q, _ := queue.New[int](1000)
		next, last := 0, -1
		for range 400 {
			if r.Intn(3) > 0 {
				q.Put(next)
				next++
				continue
			}
			if r.Intn(2) > 0 {
				q.Drop(1 + r.Intn(next+1))
				continue
			}
			x, n, ok := q.Take()
			if ok && (x <= last || n != x+1) {
				t.Fatalf("Take: %d, %d behind %d", x, n, last)
			}
			if ok {
				last = x
			}
		}
		if l := q.Clear(); !slices.IsSorted(l) || len(l) > 0 && l[0] <= last {
			t.Fatalf("Clear: %v behind %d", l, last)
		}
	}
}
