package mark

import (
	"slices"

	"flange/value"
)

// shortest is how many bytes a secret has at least: what is shorter stands in many texts by chance.
const shortest = 4

// hunter gathers secrets.
type hunter struct {
	found []string
	// Texts, Lists and Maps that it has been at: none has anything to add, in however many more places it stands. (Two Lists, or Maps, are equal if they are one in memory.)
	seen map[value.Value]struct{}
}

// all gathers the secrets of a value. Not by recursion: values may stand in one another deeper than a stack has room.
func (h *hunter) all(v value.Value) {
	waits := []value.Value{v}
	for len(waits) > 0 {
		last := len(waits) - 1
		x := waits[last]
		waits = waits[:last]
		if !h.isNew(x) {
			continue
		}
		if s, ok := x.Text(); ok {
			h.found = append(h.found, s)
		}
		inner := x.Items()
		slices.Reverse(inner)
		waits = append(waits, inner...)
	}
}

// isNew tells whether a value may have something to add; but once.
func (h *hunter) isNew(v value.Value) bool {
	switch v.Kind() {
	case value.KindText:
		if s, _ := v.Text(); len(s) < shortest {
			return false
		}
	case value.KindList, value.KindMap:
	default:
		return false
	}
	_, ok := h.seen[v]
	h.seen[v] = struct{}{}
	return !ok
}
