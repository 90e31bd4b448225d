package diff

import (
	"flange/value"
)

// side is one of two Lists, or Maps, and how far it is gone through.
type side struct {
	keys  []string
	items []value.Value
	at    int
}

func sideOf(v value.Value) side {
	return side{keys: v.Keys(), items: v.Items()}
}

func (s *side) ended() bool {
	return s.at == len(s.items)
}

func (s *side) take() value.Value {
	s.at++
	return s.items[s.at-1]
}

// ahead tells whether a Map's next key comes ahead of another one's.
func (s *side) ahead(other *side) bool {
	return !s.ended() && (other.ended() || s.keys[s.at] < other.keys[other.at])
}

// level is a pair of Lists, or Maps, that are gone through.
type level struct {
	pair
	old, new side
	// How many changes were found ahead of it.
	from int
}

func levelOf(p pair, from int) level {
	return level{pair: p, old: sideOf(p.a), new: sideOf(p.b), from: from}
}

// otherLength tells whether they are two Lists that aren't of one length.
func (l *level) otherLength() bool {
	return l.kind() == value.KindList && len(l.old.items) != len(l.new.items)
}

// next is the next step, and what both have there.
func (l *level) next() (value.Step, Change, bool) {
	if l.old.ended() && l.new.ended() {
		return value.Step{}, Change{}, false
	}
	if l.kind() == value.KindList {
		s := value.Step{At: l.old.at}
		return s, l.both(), true
	}
	if l.old.ahead(&l.new) {
		s := byKey(l.old.keys[l.old.at])
		return s, Change{A: l.old.take(), Old: true}, true
	}
	s := byKey(l.new.keys[l.new.at])
	if l.new.ahead(&l.old) {
		return s, Change{B: l.new.take(), New: true}, true
	}
	return s, l.both(), true
}

func (l *level) both() Change {
	return Change{A: l.old.take(), B: l.new.take(), Old: true, New: true}
}
