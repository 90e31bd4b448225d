package diff_test

import (
	"runtime/debug"
	"strconv"
	"testing"

	"flange/api"
	"flange/diff"
	"flange/text"
	"flange/value"
)

// fill is a value within so many Lists, in so many places of each.
func fill(v value.Value, deep, places int) value.Value {
	for range deep {
		l := make([]value.Value, places)
		for i := range l {
			l[i] = v
		}
		v = value.List(l...)
	}
	return v
}

// tie is a Map of one key.
func tie(k string, v value.Value) value.Value {
	m, _ := value.Map([]string{k}, []value.Value{v})
	return m
}

// TestShared is of values that stand in others in so many places that nobody could go through all of them.
func TestShared(t *testing.T) {
	a, b := fill(read(t, `{"a":1}`), 40, 64), fill(read(t, `{"a":1}`), 40, 64)
	if l := diff.Of(a, b); len(l) != 0 {
		t.Fatalf("Of: %d changes", len(l))
	}
	// One place in all that is another one.
	x := read(t, `{"a":2}`)
	var way []value.Step
	for i := range 40 {
		l := fill(read(t, `{"a":1}`), i+1, 64).Items()
		l[i] = x
		x = value.List(l...)
		way = append([]value.Step{at(i)}, way...)
	}
	l := diff.Of(a, x)
	if want := "~ " + text.Path(way...) + ".\"a\" 1 2\n"; diff.Lines(l) != want {
		t.Fatalf("Of: %q", diff.Lines(l))
	}
	if got, e := diff.Apply(a, l...); e != api.OK || !value.Same(got, x) {
		t.Errorf("Apply: %d", e)
	}
	if got, e := diff.Apply(x, diff.Turn(l)...); e != api.OK || !value.Same(got, a) {
		t.Errorf("Apply: %d", e)
	}
}

// TestAgain is of a wide pair in many places: each has its change, but the pair isn't gone through in each.
func TestAgain(t *testing.T) {
	const many = 20000
	wide, other := make([]value.Value, many), make([]value.Value, many)
	for i := range wide {
		wide[i], other[i] = value.Int(i), value.Int(i)
	}
	other[many-1] = value.Unset()
	a, b := fill(value.List(wide...), 1, many), fill(value.List(other...), 1, many)
	l := diff.Of(a, b)
	if len(l) != many {
		t.Fatalf("Of: %d changes", len(l))
	}
	for i, c := range l {
		if len(c.Way) != 2 || c.Way[0] != at(i) || c.Way[1] != at(many-1) || !value.Same(c.A, value.Int(many-1)) || !value.Same(c.B, value.Unset()) {
			t.Fatalf("change %d: %v", i, c.Way)
		}
	}
	// So are two that aren't of one length.
	l = diff.Of(a, fill(value.List(wide[1:]...), 1, many))
	if len(l) != many || len(l[many-1].Way) != 1 || l[many-1].Way[0] != at(many-1) {
		t.Fatalf("Of: %d changes", len(l))
	}
}

// TestAgainElsewhere is of one pair, at another depth each time.
func TestAgainElsewhere(t *testing.T) {
	x, y := read(t, `{"a":1,"b":[1,2],"c":3}`), read(t, `{"a":2,"b":[1,3],"d":3}`)
	a := value.List(tie("k", x), x, value.List(tie("k", value.List(x)), x))
	b := value.List(tie("k", y), y, value.List(tie("k", value.List(y)), y))
	l := diff.Of(a, b)
	if !alike(l, model(a, b)) || len(l) != 16 {
		t.Errorf("Of: %q", diff.Lines(l))
	}
	for i := range l {
		l[i].Way[0] = key("spoilt")
		for j := range i {
			if l[j].Way[0] != key("spoilt") {
				t.Fatal("ways share memory")
			}
		}
		for _, c := range l[i+1:] {
			if c.Way[0] == key("spoilt") {
				t.Fatal("ways share memory")
			}
		}
	}
}

// TestWide is of very many changes of one Map, and of one List: applying them one by one doesn't make all of it anew each time.
func TestWide(t *testing.T) {
	const many = 100000
	var aKeys, bKeys []string
	var items, others []value.Value
	for i := range many {
		items, others = append(items, value.Int(i)), append(others, value.Int(-i-1))
		aKeys, bKeys = append(aKeys, "a"+strconv.Itoa(i)), append(bKeys, "a"+strconv.Itoa(i*2))
	}
	a, _ := value.Map(aKeys, items)
	b, _ := value.Map(bKeys, others)
	for _, x := range [][2]value.Value{{a, b}, {value.List(items...), value.List(others...)}} {
		l := diff.Of(x[0], x[1])
		if len(l) < many {
			t.Fatalf("Of: %d changes", len(l))
		}
		if got, e := diff.Apply(x[0], l...); e != api.OK || !value.Same(got, x[1]) {
			t.Errorf("Apply: %d", e)
		}
		if got, e := diff.Apply(x[1], diff.Turn(l)...); e != api.OK || !value.Same(got, x[0]) {
			t.Errorf("Apply: %d", e)
		}
		if n := len(diff.Keys(l)); n != 0 && n != many*3/2 {
			t.Errorf("Keys: %d", n)
		}
	}
	var l []diff.Change
	for i, x := range items {
		l = append(l, add(x, at(i)))
	}
	if got, e := diff.Apply(value.List(), l...); e != api.OK || !value.Same(got, value.List(items...)) {
		t.Errorf("Apply: %d", e)
	}
}

// TestVeryDeep is of values that are deeper than a stack has room: a smaller one than usual, so that they needn't be that deep.
func TestVeryDeep(t *testing.T) {
	defer debug.SetMaxStack(debug.SetMaxStack(1 << 22))
	const deep = 1 << 16
	a, b := value.Int(1), value.Int(2)
	for i := range deep {
		if i%2 == 0 {
			a, b = tie("a", a), tie("a", b)
		} else {
			a, b = value.List(a), value.List(b)
		}
	}
	l := diff.Of(a, b)
	if len(l) != 1 || len(l[0].Way) != deep {
		t.Fatalf("Of: %d changes", len(l))
	}
	if got, e := diff.Apply(a, l...); e != api.OK || !value.Same(got, b) {
		t.Errorf("Apply: %d", e)
	}
	if got, e := diff.Apply(b, diff.Turn(l)...); e != api.OK || !value.Same(got, a) {
		t.Errorf("Apply: %d", e)
	}
	if s := diff.Lines(l); len(s) < deep || s[:6] != "~ [0]." {
		t.Errorf("Lines: %d bytes", len(s))
	}
	if l := diff.Of(a, tie("a", a)); len(l) != 1 || len(l[0].Way) != 0 {
		t.Errorf("Of: %d changes", len(l))
	}
}
