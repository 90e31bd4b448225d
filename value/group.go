package value

import (
	"math"
	"slices"

	"flange/api"
)

// measure is what is told of a value as a whole. A group is measured once, as it is made: one value may stand in another in many places, and each of these again, so that going through all of them might not come to an end.
type measure struct {
	deep, size   int
	known, right bool
}

// group is what a List holds.
type group struct {
	measure
	items []Value
}

// table is what a Map holds: its values, in the order of its keys, rising.
type table struct {
	group
	keys   []string
	places map[string]int
}

// listOf is a List that keeps these items.
func listOf(items []Value) Value {
	return Value{&group{measureAll(items), items}}
}

// mapOf is a Map that keeps these keys, rising, and their values.
func mapOf(keys []string, items []Value) Value {
	m := measureAll(items)
	m.right = m.right && !slices.ContainsFunc(keys, tooLong)
	return Value{&table{group{m, items}, keys, placesOf(keys)}}
}

// placesOf is where keys stand; of one that stands twice one place alone.
func placesOf(keys []string) map[string]int {
	places := make(map[string]int, len(keys))
	for i, k := range keys {
		places[k] = i
	}
	return places
}

// inside is the values that stand in one, and their keys, if it is a Map's; nil of one without others.
func inside(holds any) (*group, []string) {
	switch x := holds.(type) {
	case *group:
		return x, nil
	case *table:
		return &x.group, x.keys
	}
	return nil, nil
}

// underKey is the value of a Map's key.
func underKey(holds any, key string) (Value, bool) {
	t, ok := holds.(*table)
	if !ok {
		return Value{}, false
	}
	place, ok := t.places[key]
	if !ok {
		return Value{}, false
	}
	return t.items[place], true
}

func measureOf(holds any) measure {
	one := measure{deep: 1, size: 1, known: true, right: true}
	switch x := holds.(type) {
	case *group:
		return x.measure
	case *table:
		return x.measure
	case later:
		one.known = false
	case string:
		one.right = !tooLong(x)
	}
	return one
}

// measureAll is the measure of a value in which these stand.
func measureAll(items []Value) measure {
	all := measure{deep: 1, size: 1, known: true, right: true}
	for _, v := range items {
		m := measureOf(v.holds)
		all.deep = max(all.deep, m.deep+1)
		all.size = addUp(all.size, m.size)
		all.known = all.known && m.known
		all.right = all.right && m.right
	}
	all.right = all.right && all.deep <= api.MaxDeep && len(items) <= api.MaxItems
	return all
}

// addUp is a sum of sizes; the greatest int where it is beyond: values that share others may be more than any int tells.
func addUp(a, b int) int {
	if a > math.MaxInt-b {
		return math.MaxInt
	}
	return a + b
}

func tooLong(s string) bool {
	return len(s) > api.MaxString
}
