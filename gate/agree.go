package gate

import (
	"slices"

	"flange/value"
)

// pair is a plan, and a value that is held against it.
type pair struct {
	plan, v value.Value
}

// holder holds values against plans.
type holder struct {
	// The pairs that are still to be held. No recursion: values may stand in one another deeper than a stack has room.
	waits []pair
	// The pairs that were gone into: none is twice, in however many places it stands. (Two Lists, or Maps, are equal if they are one in memory.)
	seen map[pair]struct{}
}

// all tells whether all that waits agrees.
func (h *holder) all() bool {
	for len(h.waits) > 0 {
		last := len(h.waits) - 1
		p := h.waits[last]
		h.waits = h.waits[:last]
		if !h.agrees(p) {
			return false
		}
	}
	return true
}

// agrees tells whether a pair agrees as far as it shows without the values that stand in both; these wait from then on.
func (h *holder) agrees(p pair) bool {
	kind := p.plan.Kind()
	if kind == value.KindUnknown {
		return true
	}
	if kind != p.v.Kind() || kind != value.KindList && kind != value.KindMap {
		return value.Same(p.plan, p.v)
	}
	if _, ok := h.seen[p]; ok {
		return true
	}
	h.seen[p] = struct{}{}
	plans, items := p.plan.Items(), p.v.Items()
	if len(plans) != len(items) || !slices.Equal(p.plan.Keys(), p.v.Keys()) {
		return false
	}
	for i, plan := range plans {
		h.waits = append(h.waits, pair{plan, items[i]})
	}
	return true
}
