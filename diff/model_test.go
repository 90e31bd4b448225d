package diff_test

import (
	"math/rand"
	"slices"
	"testing"

	"flange/api"
	"flange/diff"
	"flange/text"
	"flange/value"
)

// model is the changes as the document's words say it.
func model(a, b value.Value) []diff.Change {
	switch {
	case value.Same(a, b):
		return nil
	case a.Kind() == value.KindMap && b.Kind() == value.KindMap:
		return modelMap(a, b)
	case a.Kind() == value.KindList && b.Kind() == value.KindList && len(a.Items()) == len(b.Items()):
		var l []diff.Change
		for i, x := range a.Items() {
			l = append(l, ahead(at(i), model(x, b.Items()[i]))...)
		}
		return l
	}
	return []diff.Change{{A: a, B: b, Old: true, New: true}}
}

func modelMap(a, b value.Value) []diff.Change {
	var l []diff.Change
	keys := append(a.Keys(), b.Keys()...)
	slices.Sort(keys)
	for _, k := range slices.Compact(keys) {
		x, old := a.At(k)
		y, now := b.At(k)
		inner := []diff.Change{{A: x, B: y, Old: old, New: now}}
		if old && now {
			inner = model(x, y)
		}
		l = append(l, ahead(key(k), inner)...)
	}
	return l
}

func ahead(s value.Step, l []diff.Change) []diff.Change {
	for i := range l {
		l[i].Way = append([]value.Step{s}, l[i].Way...)
	}
	return l
}

// alike tells whether changes are the same in all that they have.
func alike(a, b []diff.Change) bool {
	return slices.EqualFunc(a, b, func(x, y diff.Change) bool {
		return slices.Equal(x.Way, y.Way) && value.Same(x.A, y.A) && value.Same(x.B, y.B) && x.Old == y.Old && x.New == y.New
	})
}

// applyModel is one change after the other, by Go and With.
func applyModel(v value.Value, l []diff.Change) (value.Value, api.Errno) {
	for _, c := range l {
		x, e := v.Go(c.Way...)
		if e == api.ErrType {
			return value.Unset(), e
		}
		if there := e == api.OK; there != c.Old {
			return value.Unset(), api.ErrNone
		}
		if c.Old && !value.Same(x, c.A) {
			return value.Unset(), api.ErrState
		}
		if c.New {
			v, e = v.With(c.B, c.Way...)
		} else {
			v, e = without(v, c.Way)
		}
		if e != api.OK {
			return value.Unset(), e
		}
	}
	return v, api.OK
}

func without(v value.Value, way []value.Step) (value.Value, api.Errno) {
	if len(way) == 0 {
		return value.Unset(), api.ErrArg
	}
	last := way[len(way)-1]
	if last.Key == "" && last.At >= 0 {
		return value.Unset(), api.ErrArg
	}
	in, e := v.Go(way[:len(way)-1]...)
	if e != api.OK {
		return value.Unset(), e
	}
	var keys []string
	var items []value.Value
	for _, k := range in.Keys() {
		if x, _ := in.At(k); k != last.Key {
			keys, items = append(keys, k), append(items, x)
		}
	}
	m, _ := value.Map(keys, items)
	return v.With(m, way[:len(way)-1]...)
}

func values(t *testing.T) []value.Value {
	var all []value.Value
	for _, s := range []string{"null", "?", "true", "0", "(0,0)", `""`, `"x"`, "[]", "{}"} {
		all = append(all, read(t, s))
	}
	for range 2 {
		for i, a := range all {
			b := all[(i*7+5)%len(all)]
			ab, _ := value.Map([]string{"a", "b"}, []value.Value{a, b})
			one, _ := value.Map([]string{[]string{"a", "b", "c", ""}[i%4]}, []value.Value{b})
			all = append(all, value.List(a), value.List(b, a), ab, one)
		}
	}
	return all
}

// TestModel holds the changes of all values against the model; applied, they make the second one, and turned, the first one.
func TestModel(t *testing.T) {
	changed := 0
	l := values(t)
	for i, a := range l {
		for _, b := range l[i%2:] {
			got := diff.Of(a, b)
			if !alike(got, model(a, b)) {
				t.Fatalf("Of %s, %s: %q", text.Write(a), text.Write(b), diff.Lines(got))
			}
			if (len(got) == 0) != value.Same(a, b) {
				t.Fatalf("Of %s, %s: %d changes", text.Write(a), text.Write(b), len(got))
			}
			if x, e := diff.Apply(a, got...); e != api.OK || !value.Same(x, b) {
				t.Fatalf("Apply %s, %q: %s, %d", text.Write(a), diff.Lines(got), text.Write(x), e)
			}
			back := diff.Turn(got)
			if x, e := diff.Apply(b, back...); e != api.OK || !value.Same(x, a) {
				t.Fatalf("Apply %s, %q: %s, %d", text.Write(b), diff.Lines(back), text.Write(x), e)
			}
			if !alike(diff.Turn(back), got) {
				t.Fatalf("Turn %q: %q", diff.Lines(back), diff.Lines(diff.Turn(back)))
			}
			if len(got) > 1 {
				changed++
			}
		}
	}
	if changed < 1000 {
		t.Errorf("%d have several changes", changed)
	}
}

// some is a small value by chance.
func some(r *rand.Rand, deep int) value.Value {
	n := r.Intn(4)
	if deep == 0 || n == 0 {
		return value.Int(r.Intn(2))
	}
	items := make([]value.Value, r.Intn(3))
	for i := range items {
		items[i] = some(r, deep-1)
	}
	if n == 1 {
		return value.List(items...)
	}
	m, _ := value.Map([]string{"", "a", "b"}[:len(items)], items)
	return m
}

// anyStep is a step by chance, as often as not one that leads somewhere in a value.
func anyStep(r *rand.Rand, v value.Value) value.Step {
	if n := len(v.Items()); n > 0 && r.Intn(3) > 0 {
		if v.Kind() == value.KindList {
			return at(r.Intn(n))
		}
		return key(v.Keys()[r.Intn(n)])
	}
	if v.Kind() == value.KindList && r.Intn(2) > 0 {
		return at(len(v.Items()) + r.Intn(2)*r.Intn(2))
	}
	return []value.Step{key(""), key("a"), key("b"), {Key: "a", At: 0}, {At: -3}, at(0), at(1), at(2)}[r.Intn(8)]
}

// anyChange is a change by chance, as a rule one that may be.
func anyChange(r *rand.Rand, v value.Value) diff.Change {
	var way []value.Step
	in, e := v, api.OK
	for range r.Intn(4) {
		s := anyStep(r, in)
		way = append(way, s)
		if in, e = in.Go(s); e != api.OK {
			in = value.Unset()
		}
	}
	x, e := v.Go(way...)
	c := diff.Change{Way: way, A: x, B: some(r, 3), Old: e == api.OK, New: r.Intn(3) > 0}
	switch r.Intn(24) {
	case 0:
		c.Old = !c.Old
	case 1:
		c.A = some(r, 2)
	}
	return c
}

// TestChance applies many changes by chance, and holds what comes of it against the model.
func TestChance(t *testing.T) {
	r := rand.New(rand.NewSource(1))
	ends := map[api.Errno]int{}
	for range 100000 {
		v := some(r, 4)
		var l []diff.Change
		now, e := v, api.OK
		for range 1 + r.Intn(12) {
			c := anyChange(r, now)
			next, wrong := applyModel(now, []diff.Change{c})
			// As a rule what can't be is left out, so that there are long lists that can.
			if wrong != api.OK && r.Intn(8) > 0 {
				continue
			}
			l = append(l, c)
			if wrong != api.OK {
				break
			}
			now = next
		}
		want, e := applyModel(v, l)
		got, e2 := diff.Apply(v, l...)
		if e != e2 || !value.Same(got, want) {
			t.Fatalf("Apply %s, %q: %s, %d; not %s, %d", text.Write(v), diff.Lines(l), text.Write(got), e2, text.Write(want), e)
		}
		ends[e]++
		if e == api.OK {
			if back, e := diff.Apply(got, diff.Turn(diff.Of(v, got))...); e != api.OK || !value.Same(back, v) {
				t.Fatalf("Apply %s: %s, %d", text.Write(got), text.Write(back), e)
			}
		}
	}
	for _, e := range []api.Errno{api.OK, api.ErrType, api.ErrNone, api.ErrState, api.ErrArg, api.ErrRange} {
		if ends[e] < 100 {
			t.Errorf("%d lists end with %d", ends[e], e)
		}
	}
}
