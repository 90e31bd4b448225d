package backoff_test

import (
	"math/big"
	"math/rand"
	"testing"

	"flange/api"
	"flange/backoff"
)

// some is a rule by chance, that is right or nearly so.
func some(r *rand.Rand) backoff.Rule {
	number := func(most int) int {
		switch r.Intn(4) {
		case 0:
			return r.Intn(most) + 1
		case 1:
			return r.Intn(4)
		case 2:
			return most + r.Intn(3) - 1
		}
		return r.Intn(12)
	}
	return backoff.Rule{Base: number(1000000), Cap: number(1000000), Tries: number(100), Calm: number(1000000)}
}

// rightModel tells whether a rule may be, as the document's words say it.
func rightModel(r backoff.Rule) bool {
	is := func(n, most int) bool { return n >= 1 && n <= most }
	return is(r.Base, 1000000) && is(r.Cap, 1000000) && r.Base <= r.Cap && is(r.Tries, 100) && is(r.Calm, 1000000)
}

// delayModel is a delay, likewise: by numbers of any size.
func delayModel(r backoff.Rule, n int) int {
	if !rightModel(r) || n < 1 {
		return 0
	}
	d := new(big.Int).Lsh(big.NewInt(int64(r.Base)), uint(n-1))
	if d.Cmp(big.NewInt(int64(r.Cap))) > 0 {
		return r.Cap
	}
	return int(d.Int64())
}

// totalModel is the sum of delays: of the first hundred one by one, of the others, which are the cap, at once.
func totalModel(r backoff.Rule, n int) int {
	if !rightModel(r) || n < 1 {
		return 0
	}
	sum := new(big.Int)
	for i := range min(n, 100) {
		sum.Add(sum, big.NewInt(int64(delayModel(r, i+1))))
	}
	rest := new(big.Int).Mul(big.NewInt(int64(max(n-100, 0))), big.NewInt(int64(r.Cap)))
	sum.Add(sum, rest)
	if sum.Cmp(big.NewInt(api.MaxTick)) > 0 {
		return api.MaxTick
	}
	return int(sum.Int64())
}

func TestRuleModel(t *testing.T) {
	r := rand.New(rand.NewSource(1))
	right, last := 0, 0
	for range 50000 {
		rule := some(r)
		if got := backoff.Right(rule); got != rightModel(rule) {
			t.Fatalf("Right(%v): %t", rule, got)
		}
		if backoff.Right(rule) {
			right++
		}
		before := 0
		for n := -1; n < 30; n++ {
			d := backoff.Delay(rule, n)
			if d != delayModel(rule, n) || d < before {
				t.Fatalf("Delay(%v, %d): %d; the one ahead of it: %d", rule, n, d, before)
			}
			before = d
		}
		for range 5 {
			n := int(r.Uint64() >> (1 + r.Intn(63)))
			sum := backoff.Total(rule, n)
			if sum != totalModel(rule, n) {
				t.Fatalf("Total(%v, %d): %d, not %d", rule, n, sum, totalModel(rule, n))
			}
			if sum == api.MaxTick {
				last++
			}
		}
	}
	if right < 1000 || right > 49000 || last < 1000 {
		t.Errorf("%d are right, %d are the last tick", right, last)
	}
}

// model counts failures as the document's words say it: by the list of those in a row.
type model struct {
	rule  backoff.Rule
	start int
	row   []int
	lost  bool
}

func (m *model) fail(now int) (int, bool) {
	if m.lost {
		return 0, false
	}
	if now > m.start+m.rule.Calm {
		m.row = nil
	}
	m.row = append(m.row, now)
	m.lost = len(m.row) == m.rule.Tries
	if m.lost {
		return 0, false
	}
	return delayModel(m.rule, len(m.row)), true
}

// TestStateModel holds states against the model, through very many steps.
func TestStateModel(t *testing.T) {
	r := rand.New(rand.NewSource(2))
	lost, calm := 0, 0
	for range 3000 {
		rule := backoff.Rule{Base: 1 + r.Intn(5), Cap: 5 + r.Intn(50), Tries: 1 + r.Intn(8), Calm: 1 + r.Intn(20)}
		s, m := made(t, rule), &model{rule: rule}
		waits := 0
		for now := 0; now < 300; now += r.Intn(12) {
			switch r.Intn(6) {
			case 0, 1:
				e := s.Start(now)
				if m.lost != (e == api.ErrState) || !m.lost && e != api.OK {
					t.Fatalf("%v: Start(%d): %d", rule, now, e)
				}
				if !m.lost {
					m.start = now
				}
			case 2:
				if r.Intn(4) > 0 {
					continue
				}
				if got := s.Reset(); got != (len(m.row) > 0) {
					t.Fatalf("%v: Reset: %t", rule, got)
				}
				m.row, m.lost, waits = nil, false, 0
			default:
				before := len(m.row)
				got, ok := s.Fail(now)
				want, is := m.fail(now)
				if got != want || ok != is {
					t.Fatalf("%v: Fail(%d): %d, %t; not %d, %t", rule, now, got, ok, want, is)
				}
				if len(m.row) == 1 {
					waits = 0
				}
				if len(m.row) == 1 && before > 1 {
					calm++
				}
				// No more than Tries failures in a row are answered by waiting, less one.
				if ok {
					waits++
				}
				if waits >= rule.Tries {
					t.Fatalf("%v: %d waits in a row", rule, waits)
				}
			}
			if s.Count() != len(m.row) || s.Lost() != m.lost {
				t.Fatalf("%v: Count: %d, Lost: %t; not %d, %t", rule, s.Count(), s.Lost(), len(m.row), m.lost)
			}
		}
		if m.lost {
			lost++
		}
	}
	if lost < 500 || calm < 500 {
		t.Errorf("%d are given up, %d times it was calm", lost, calm)
	}
}
