package kind

import (
	"flange/api"
	"flange/value"
)

// few is how many values one has that is rather gone through again than looked for.
const few = 1 << 8

// taken is a List or a Map that a type has taken. (Two of them are equal if they are one in memory, which shows without going into them.)
type taken struct {
	kind *Type
	v    value.Value
}

// seeker goes into a value by a type; where it isn't taken it stops, and its way leads there.
type seeker struct {
	way []value.Step
	// One value may stand in another in many places, and this one again, so that going through all of them might not come to an end.
	seen map[taken]struct{}
}

// takes tells whether a type takes a value.
func (s *seeker) takes(t *Type, v value.Value) bool {
	if v.Kind() == value.KindNull || v.Kind() == value.KindUnknown {
		return true
	}
	if t.form.holds() == value.KindNull {
		return t.takesWhole(v)
	}
	if t.form.holds() != v.Kind() {
		return false
	}
	if v.Size() < few {
		return s.takesAll(t, v)
	}
	if _, ok := s.seen[taken{t, v}]; ok {
		return true
	}
	ok := s.takesAll(t, v)
	if ok {
		s.seen[taken{t, v}] = struct{}{}
	}
	return ok
}

// takesAll tells whether a type takes each of the values in one, and misses none.
func (s *seeker) takesAll(t *Type, v value.Value) bool {
	items, keys := v.Items(), v.Keys()
	if _, ok := t.Item(len(items)); !ok && v.Kind() == value.KindList {
		return false
	}
	for i, x := range items {
		part := t.placed(i)
		step := value.Step{At: i}
		if v.Kind() == value.KindMap {
			part = t.under(keys[i])
			step = byKey(keys[i])
		}
		s.way = append(s.way, step)
		if part == nil || !s.takes(part, x) {
			return false
		}
		s.way = s.way[:len(s.way)-1]
	}
	if l := t.Missing(v); len(l) > 0 {
		s.way = append(s.way, byKey(l[0]))
		return false
	}
	return true
}

// byKey is a step, as it is told, that leads by a key.
func byKey(key string) value.Step {
	return value.Step{Key: key, At: -1}
}

// takesWhole tells whether a type without others takes a value.
func (t *Type) takesWhole(v value.Value) bool {
	switch t.form {
	case formBool:
		return v.Kind() == value.KindBool
	case formInt:
		return v.Kind() == value.KindInt
	case formPoint:
		return v.Kind() == value.KindPoint || mayBePoint(v)
	case formText:
		return v.Kind() == value.KindText
	}
	return true
}

// mayBePoint tells whether a value is an Int that a Point may have as a part.
func mayBePoint(v value.Value) bool {
	n, ok := v.Int()
	_, e := value.Point(n, 0)
	return ok && e == api.OK
}
