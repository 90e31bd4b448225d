package value

import (
	"slices"
)

// pair is two groups that are held against each other.
type pair struct {
	a, b *group
}

// comparison is the pairs that wait, and those that ever did: none is looked into twice, in however many places it stands.
type comparison struct {
	waits []pair
	seen  map[pair]struct{}
}

// Same tells whether two values are the same.
func Same(a, b Value) bool {
	c := comparison{seen: make(map[pair]struct{})}
	if !c.alike(a, b) {
		return false
	}
	// Not by recursion: values may stand in one another deeper than a stack has room.
	for len(c.waits) > 0 {
		last := len(c.waits) - 1
		p := c.waits[last]
		c.waits = c.waits[:last]
		for i, x := range p.a.items {
			if !c.alike(x, p.b.items[i]) {
				return false
			}
		}
	}
	return true
}

// alike tells whether two values are the same as far as it shows without those that stand in them; these wait.
func (c *comparison) alike(a, b Value) bool {
	if a.holds == b.holds {
		return true
	}
	if a.Kind() != b.Kind() {
		return false
	}
	x, xKeys := inside(a.holds)
	y, yKeys := inside(b.holds)
	if x == nil || y == nil {
		return false
	}
	p := pair{x, y}
	if _, ok := c.seen[p]; ok {
		return true
	}
	if x.measure != y.measure || len(x.items) != len(y.items) || !slices.Equal(xKeys, yKeys) {
		return false
	}
	c.seen[p] = struct{}{}
	c.waits = append(c.waits, p)
	return true
}
