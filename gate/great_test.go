package gate_test

import (
	"runtime/debug"
	"slices"
	"strings"
	"testing"

	"flange/gate"
	"flange/value"
)

// fill is a value within so many Lists, in so many places of each.
func fill(v value.Value, deep, places int) value.Value {
	for range deep {
		l := make([]value.Value, places)
		for i := range l {
			l[i] = v
		}
		v = value.List(l...)
	}
	return v
}

// tie is a Map of one key.
func tie(k string, v value.Value) value.Value {
	m, _ := value.Map([]string{k}, []value.Value{v})
	return m
}

// TestShared is of values that stand in others in so many places that nobody could go through all of them.
func TestShared(t *testing.T) {
	plan, v := fill(read(t, `[{"a":?},1]`), 40, 64), fill(read(t, `[{"a":[2]},1]`), 40, 64)
	if !gate.Agrees(plan, v) || gate.Agrees(v, plan) || gate.Agrees(plan, fill(read(t, `[{"a":[2]},2]`), 40, 64)) {
		t.Error("Agrees of shared values")
	}
	// One place in all that is another one.
	x := read(t, `[{"a":[2]},2]`)
	for i := range 40 {
		l := fill(read(t, `[{"a":[2]},1]`), i+1, 64).Items()
		l[i] = x
		x = value.List(l...)
	}
	if gate.Agrees(plan, x) {
		t.Error("Agrees of one that doesn't")
	}
	s := parse(t, "version 1\nattr x any new\n")
	prior, full := tie("x", x), tie("x", v)
	if got := gate.Plan(s, full, prior, full, "x"); got.Rule != gate.Fine {
		t.Errorf("Plan: %v", got)
	}
	if got := gate.Plan(s, prior, prior, full, "x"); got.Rule != gate.Set {
		t.Errorf("Plan: %v", got)
	}
	if got := gate.Apply(s, tie("x", plan), full); got.Rule != gate.Fine {
		t.Errorf("Apply: %v", got)
	}
	if got := gate.Apply(s, tie("x", plan), prior); got.Rule != gate.Broken {
		t.Errorf("Apply: %v", got)
	}
}

// TestWide is of a wide pair in many places, each beside another one: it isn't gone into in each.
func TestWide(t *testing.T) {
	const many = 20000
	wide := make([]value.Value, many)
	plans, items := make([]value.Value, many), make([]value.Value, many)
	wide[many-1] = value.Later()
	plan := value.List(wide...)
	wide[many-1] = value.Int(1)
	v := value.List(wide...)
	for i := range plans {
		plans[i], items[i] = value.List(value.Int(i), plan), value.List(value.Int(i), v)
	}
	if !gate.Agrees(value.List(plans...), value.List(items...)) {
		t.Error("Agrees: false")
	}
	items[many/2] = value.List(value.Int(0), v)
	if gate.Agrees(value.List(plans...), value.List(items...)) {
		t.Error("Agrees: true")
	}
}

// TestManyNames is of names in such a number that what is great isn't held against another value for each.
func TestManyNames(t *testing.T) {
	const many = 100000
	s := parse(t, "version 1\nattr x any new\nattr y any new\n")
	prior, _ := value.Map([]string{"x", "y"}, []value.Value{fill(value.Int(1), 2, 300), fill(value.Int(1), 2, 300)})
	planned, _ := value.Map([]string{"x", "y"}, []value.Value{fill(value.Int(1), 2, 300), fill(value.Int(2), 2, 300)})
	renew := slices.Repeat([]string{"y"}, many)
	if got := gate.Plan(s, planned, prior, planned, renew...); got.Rule != gate.Fine {
		t.Errorf("Plan: %v", got)
	}
	renew[many-1] = "x"
	if got := gate.Plan(s, planned, prior, planned, renew...); got != (gate.Verdict{Rule: gate.Name, Name: "x"}) {
		t.Errorf("Plan: %v", got)
	}
	long := strings.Repeat("y", many)
	if got := gate.Plan(s, planned, prior, planned, "y", long); got != (gate.Verdict{Rule: gate.Name, Name: long}) {
		t.Error("Plan by a long name")
	}
}

// TestVeryDeep is of values that are deeper than a stack has room: a smaller one than usual, so that they needn't be that deep.
func TestVeryDeep(t *testing.T) {
	defer debug.SetMaxStack(debug.SetMaxStack(1 << 22))
	plan, v, other := value.Later(), value.Int(1), value.List(value.Later())
	for i := range 1 << 16 {
		if i%2 == 0 {
			plan, v, other = tie("a", plan), tie("a", v), tie("a", other)
		} else {
			plan, v, other = value.List(plan), value.List(v), value.List(other)
		}
	}
	if !gate.Agrees(plan, v) || gate.Agrees(other, v) || gate.Agrees(plan, value.List(v)) || !gate.Agrees(plan, other) {
		t.Error("Agrees of deep values")
	}
	s := parse(t, "version 1\nattr x any new\n")
	if got := gate.Apply(s, tie("x", plan), tie("x", v)); got.Rule != gate.Fine {
		t.Errorf("Apply: %v", got)
	}
	if got := gate.Plan(s, tie("x", v), tie("x", other), tie("x", v)); got.Rule != gate.Hush {
		t.Errorf("Plan: %v", got)
	}
}
