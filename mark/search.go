package mark

import (
	"slices"

	"flange/value"
)

// span is which of the ways that are found lead into a value, and how deep this one stood.
type span struct {
	from, to, deep int
}

// level is a List or a Map that is gone through.
type level struct {
	v     value.Value
	keys  []string
	items []value.Value
	next  int
	// How many ways were found ahead of it.
	from int
}

// step leads to the next value.
func (l *level) step() value.Step {
	if l.v.Kind() == value.KindMap {
		return byKey(l.keys[l.next])
	}
	return value.Step{At: l.next}
}

// searcher gathers the ways to Unknowns.
type searcher struct {
	way   []value.Step
	found [][]value.Step
	// The values that aren't gone through. No recursion: values may stand in one another deeper than a stack has room.
	open []level
	// The ways into Lists and Maps: none is gone through twice, in however many places it stands. (Two of them are equal if they are one in memory.)
	told map[value.Value]span
}

// all gathers the ways into a value.
func (s *searcher) all(v value.Value) {
	s.look(v)
	for len(s.open) > 0 {
		s.goOn()
	}
}

// look gathers the ways into a value, and tells whether it is through with that: else the value is left open.
func (s *searcher) look(v value.Value) bool {
	if v.Known() {
		return true
	}
	if v.Kind() == value.KindUnknown {
		s.found = append(s.found, slices.Clone(s.way))
		return true
	}
	if x, ok := s.told[v]; ok {
		s.again(x)
		return true
	}
	s.open = append(s.open, level{v: v, keys: v.Keys(), items: v.Items(), from: len(s.found)})
	return false
}

// goOn takes the next step in the last value that is open.
func (s *searcher) goOn() {
	l := &s.open[len(s.open)-1]
	if l.next == len(l.items) {
		s.close()
		return
	}
	x := l.items[l.next]
	s.way = append(s.way, l.step())
	l.next++
	if s.look(x) {
		s.back()
	}
}

// close ends the last value that is open.
func (s *searcher) close() {
	last := len(s.open) - 1
	l := s.open[last]
	s.told[l.v] = span{l.from, len(s.found), len(s.way)}
	s.open = s.open[:last]
	if last > 0 {
		s.back()
	}
}

func (s *searcher) back() {
	s.way = s.way[:len(s.way)-1]
}

// again adds the ways into a value that stood elsewhere, too.
func (s *searcher) again(x span) {
	for _, way := range s.found[x.from:x.to] {
		s.found = append(s.found, slices.Concat(s.way, way[x.deep:]))
	}
}
