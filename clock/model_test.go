package clock_test

import (
	"math/rand"
	"slices"
	"strconv"
	"testing"

	"flange/api"
	"flange/clock"
)

// model is alarms in the order in which they were set, which are looked through tick by tick.
type model struct {
	now  int
	list []bell
}

type bell struct {
	name string
	at   int
}

func (m *model) drop(name string) bool {
	was := len(m.list)
	m.list = slices.DeleteFunc(m.list, func(b bell) bool { return b.name == name })
	return len(m.list) < was
}

func (m *model) set(name string, in int) api.Errno {
	if in < 0 {
		return api.ErrArg
	}
	others := 0
	for _, b := range m.list {
		if b.name != name {
			others++
		}
	}
	if others >= 32 {
		return api.ErrFull
	}
	m.drop(name)
	m.list = append(m.list, bell{name, m.now + in})
	return api.OK
}

// tick is what rings: at each tick the least name, and so on.
func (m *model) tick(n int) []string {
	var l []string
	for range n {
		for at := m.now; at <= m.now+1; at++ {
			for {
				name, ok := m.least(at)
				if !ok {
					break
				}
				m.drop(name)
				l = append(l, name)
			}
		}
		m.now++
	}
	return l
}

// least is the least name of those that ring at a tick.
func (m *model) least(at int) (string, bool) {
	name, ok := "", false
	for _, b := range m.list {
		if b.at == at && (!ok || b.name < name) {
			name, ok = b.name, true
		}
	}
	return name, ok
}

// agree holds all that alarms tell against the model.
func (m *model) agree(t *testing.T, a *clock.Alarms) {
	t.Helper()
	if a.Now() != m.now || a.Len() != len(m.list) {
		t.Fatalf("Now: %d, Len: %d; not %d, %d", a.Now(), a.Len(), m.now, len(m.list))
	}
	for i := range 50 {
		name := strconv.Itoa(i)
		want := bell{}
		for _, b := range m.list {
			if b.name == name {
				want = b
			}
		}
		if at, ok := a.At(name); at != want.at || ok != (want.name != "") {
			t.Fatalf("At(%q): %d, %t; not %d", name, at, ok, want.at)
		}
	}
	first, some := bell{}, false
	for _, b := range m.list {
		if !some || b.at < first.at || b.at == first.at && b.name < first.name {
			first, some = b, true
		}
	}
	if name, at, ok := a.Next(); name != first.name || at != first.at || ok != some {
		t.Fatalf("Next: %q, %d, %t; not %q, %d, %t", name, at, ok, first.name, first.at, some)
	}
}

// TestModel holds alarms against the model, through very many steps.
func TestModel(t *testing.T) {
	r := rand.New(rand.NewSource(1))
	full, rang := 0, 0
	for range 1000 {
		a, m := clock.New(), &model{}
		names := 5 + r.Intn(45)
		for range 200 {
			name, n := strconv.Itoa(r.Intn(names)), r.Intn(12)-1
			switch r.Intn(8) {
			case 0:
				if got, want := a.Drop(name), m.drop(name); got != want {
					t.Fatalf("Drop(%q): %t", name, got)
				}
			case 1:
				n = r.Intn(4) - 1
				got, want := a.Tick(n), m.tick(max(n, 0))
				if !slices.Equal(got, want) {
					t.Fatalf("Tick(%d): %q, not %q", n, got, want)
				}
				if len(got) > 1 {
					rang++
				}
			default:
				n *= 5
				got, want := a.Set(name, n), m.set(name, n)
				if got != want {
					t.Fatalf("Set(%q, %d): %d, not %d", name, n, got, want)
				}
				if got == api.ErrFull {
					full++
				}
			}
			m.agree(t, a)
		}
	}
	if full < 500 || rang < 500 {
		t.Errorf("%d times it is full, %d times several ring", full, rang)
	}
}

// TestOneByOne: ticks, one by one, or some at once, ring the same as all at once.
func TestOneByOne(t *testing.T) {
	r := rand.New(rand.NewSource(2))
	for range 3000 {
		start := []int{0, 100, api.MaxTick - 200}[r.Intn(3)]
		a, b, c := clock.New(), clock.New(), clock.New()
		for _, x := range []*clock.Alarms{a, b, c} {
			x.Tick(start)
		}
		for range r.Intn(40) {
			name, in := strconv.Itoa(r.Intn(50)), r.Intn(25)
			for _, x := range []*clock.Alarms{a, b, c} {
				x.Set(name, in)
			}
		}
		n := r.Intn(30)
		want := a.Tick(n)
		var ones, some []string
		for range n {
			ones = append(ones, b.Tick(1)...)
		}
		for left := n; left > 0; {
			k := 1 + r.Intn(left)
			some = append(some, c.Tick(k)...)
			left -= k
		}
		if !slices.Equal(ones, want) || !slices.Equal(some, want) {
			t.Fatalf("%d ticks: %q one by one, %q some at once; not %q", n, ones, some, want)
		}
		if b.Now() != a.Now() || b.Len() != a.Len() || c.Now() != a.Now() || c.Len() != a.Len() {
			t.Fatalf("%d ticks: they are at other ticks, or have other alarms", n)
		}
	}
}
