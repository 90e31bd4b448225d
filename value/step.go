package value

import (
	"slices"

	"flange/api"
)

// Go goes into a value, step by step.
func (v Value) Go(l ...Step) (Value, api.Errno) {
	for _, s := range l {
		next, e := v.follow(s)
		if e != api.OK {
			return Value{}, e
		}
		v = next
	}
	return v, api.OK
}

// With is a value with another one, where steps lead.
func (v Value) With(x Value, l ...Step) (Value, api.Errno) {
	if len(l) == 0 {
		return x, api.OK
	}
	way, e := v.way(l[:len(l)-1])
	if e != api.OK {
		return Value{}, e
	}
	// From the last step back, each value on the way is made anew with the one below it.
	for i := len(l) - 1; i >= 0; i-- {
		x, e = way[i].put(x, l[i])
		if e != api.OK {
			return Value{}, e
		}
	}
	return x, api.OK
}

// way is a value, and all those that steps lead to, one after the other.
func (v Value) way(l []Step) ([]Value, api.Errno) {
	way := []Value{v}
	for _, s := range l {
		next, e := v.follow(s)
		if e != api.OK {
			return nil, e
		}
		way = append(way, next)
		v = next
	}
	return way, api.OK
}

// byKey tells whether a step leads into a Map.
func (s Step) byKey() bool {
	return s.Key != "" || s.At < 0
}

// follow is the value to which one step leads.
func (v Value) follow(s Step) (Value, api.Errno) {
	if s.byKey() {
		t, e := mustBeMap(v.holds)
		if e != api.OK {
			return Value{}, e
		}
		return t.under(s.Key)
	}
	g, e := mustBeList(v.holds)
	if e != api.OK {
		return Value{}, e
	}
	return g.item(s.At)
}

// put is a value with another one, where one step leads, be it there or next to be added.
func (v Value) put(x Value, s Step) (Value, api.Errno) {
	if s.byKey() {
		t, e := mustBeMap(v.holds)
		if e != api.OK {
			return Value{}, e
		}
		return t.with(s.Key, x), api.OK
	}
	g, e := mustBeList(v.holds)
	if e != api.OK {
		return Value{}, e
	}
	return g.with(s.At, x)
}

// mustBeList asserts what a value holds: of another kind that panics, which is told as ErrType.
func mustBeList(holds any) (g *group, e api.Errno) {
	defer func() {
		if recover() != nil {
			g, e = nil, api.ErrType
		}
	}()
	return holds.(*group), api.OK
}

// mustBeMap asserts what a value holds: of another kind that panics, which is told as ErrType.
func mustBeMap(holds any) (t *table, e api.Errno) {
	defer func() {
		if recover() != nil {
			t, e = nil, api.ErrType
		}
	}()
	return holds.(*table), api.OK
}

func (g *group) item(at int) (Value, api.Errno) {
	if at >= len(g.items) {
		return Value{}, api.ErrRange
	}
	return g.items[at], api.OK
}

func (g *group) with(at int, x Value) (Value, api.Errno) {
	if at > len(g.items) {
		return Value{}, api.ErrRange
	}
	return listOf(placed(g.items, at, x)), api.OK
}

func (t *table) under(key string) (Value, api.Errno) {
	place, ok := t.places[key]
	if !ok {
		return Value{}, api.ErrNone
	}
	return t.items[place], api.OK
}

func (t *table) with(key string, x Value) Value {
	if place, ok := t.places[key]; ok {
		return mapOf(t.keys, placed(t.items, place, x))
	}
	place, _ := slices.BinarySearch(t.keys, key)
	keys := slices.Insert(slices.Clone(t.keys), place, key)
	items := slices.Insert(slices.Clone(t.items), place, x)
	return mapOf(keys, items)
}

// placed is new memory of items, with another one at a place, which may be the one behind the last.
func placed(items []Value, at int, x Value) []Value {
	out := make([]Value, max(len(items), at+1))
	copy(out, items)
	out[at] = x
	return out
}
