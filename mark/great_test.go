package mark_test

import (
	"runtime/debug"
	"slices"
	"strconv"
	"strings"
	"testing"

	"flange/mark"
	"flange/text"
	"flange/value"
)

// fill is a value within so many Lists, in so many places of each.
func fill(v value.Value, deep, places int) value.Value {
	for range deep {
		l := make([]value.Value, places)
		for i := range l {
			l[i] = v
		}
		v = value.List(l...)
	}
	return v
}

// tie is a Map of one key.
func tie(k string, v value.Value) value.Value {
	m, _ := value.Map([]string{k}, []value.Value{v})
	return m
}

// TestShared is of values that stand in others in so many places that nobody could go through all of them.
func TestShared(t *testing.T) {
	v, known := fill(read(t, `["aaaa",{"x":?},"bbbb"]`), 40, 64), fill(read(t, `[1,{"x":"cccc"}]`), 40, 64)
	want := fill(read(t, `["aaaa",{"x":"cccc"},"bbbb"]`), 40, 64)
	got := mark.Fill(v, known)
	if !value.Same(got, want) || !value.Same(mark.Fill(v, fill(read(t, "[]"), 40, 64)), v) {
		t.Error("shared values aren't filled")
	}
	if l := mark.Unknown(got); len(l) != 0 {
		t.Errorf("Unknown: %d", len(l))
	}
	s := parse(t, example)
	if l := mark.Secrets(s, tie("zone", got)); !slices.Equal(l, []string{"aaaa", "cccc", "bbbb"}) {
		t.Errorf("Secrets: %q", l)
	}
	if got := text.Write(mark.Redact(s, tie("zone", got))); got != `{"zone":"***"}` {
		t.Errorf("Redact: %s", got)
	}
	// One Unknown among all these.
	one, way := value.Later(), []value.Step(nil)
	for i := range 40 {
		l := fill(value.Int(1), i+1, 64).Items()
		l[i] = one
		one = value.List(l...)
		way = append([]value.Step{{At: i}}, way...)
	}
	if l := mark.Unknown(one); len(l) != 1 || !slices.Equal(l[0], way) {
		t.Errorf("Unknown: %v", l)
	}
}

// TestWideShared is of a wide value in many places: each has its Unknown, but the value isn't gone through in each.
func TestWideShared(t *testing.T) {
	const many = 20000
	wide := make([]value.Value, many)
	wide[many-1] = value.Later()
	v := fill(value.List(wide...), 1, many)
	l := mark.Unknown(v)
	if len(l) != many {
		t.Fatalf("Unknown: %d", len(l))
	}
	for i, way := range l {
		if !slices.Equal(way, []value.Step{{At: i}, {At: many - 1}}) {
			t.Fatalf("Unknown %d: %v", i, way)
		}
	}
	wide[many-1] = value.Int(1)
	if known := fill(value.List(wide...), 1, many); !value.Same(mark.Fill(v, known), known) {
		t.Error("Fill")
	}
}

// TestVeryDeep is of values that are deeper than a stack has room: a smaller one than usual, so that they needn't be that deep.
func TestVeryDeep(t *testing.T) {
	defer debug.SetMaxStack(debug.SetMaxStack(1 << 22))
	const deep = 1 << 16
	v, known := value.Later(), value.Text("secret")
	for i := range deep {
		if i%2 == 0 {
			v, known = tie("a", v), tie("a", known)
		} else {
			v, known = value.List(v), value.List(known)
		}
	}
	if l := mark.Unknown(v); len(l) != 1 || len(l[0]) != deep {
		t.Errorf("Unknown: %d", len(l))
	}
	if !value.Same(mark.Fill(v, known), known) {
		t.Error("Fill")
	}
	s := parse(t, example)
	if l := mark.Secrets(s, tie("more", known)); !slices.Equal(l, []string{"secret"}) {
		t.Errorf("Secrets: %q", l)
	}
}

// TestLongTexts is of texts and secrets that are so alike that reading on from each place would not come to an end.
func TestLongTexts(t *testing.T) {
	const long = 1 << 20
	a := strings.Repeat("a", long)
	nearly := []string{a[:long/2] + "b", "b" + a[:long/2], a[:long/4] + "b" + a[:long/4]}
	if got := mark.Clean(a, nearly...); got != a || mark.Leaks(a, nearly...) {
		t.Error("what doesn't stand there is found")
	}
	if got := mark.Clean(a+"b", append(nearly, "aaaab")...); got != a[:long/2]+"***" {
		t.Errorf("Clean: %d bytes", len(got))
	}
	if got := mark.Clean(a, a[:long/2], a[:5]); got != "******" {
		t.Errorf("Clean: %d bytes", len(got))
	}
	if got := mark.Clean(a, "aaaa"); got != strings.Repeat("*", long/4*3) {
		t.Errorf("Clean: %d bytes", len(got))
	}
	if mark.Leaks(a[:9], a, a+"b") {
		t.Error("what is longer than the text is found")
	}
	var many []string
	var all strings.Builder
	for i := range 50000 {
		many = append(many, "secret"+strconv.Itoa(i)+"-")
		all.WriteString(many[i])
	}
	if got := mark.Clean(all.String(), many...); got != strings.Repeat("***", 50000) {
		t.Errorf("Clean: %d bytes", len(got))
	}
	if mark.Leaks(a, many...) || !mark.Leaks("-"+all.String()[:9], many...) {
		t.Error("Leaks")
	}
}
