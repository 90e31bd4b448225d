package diff

import (
	"slices"

	"flange/value"
)

// way is where a gatherer stands.
type way struct {
	steps []value.Step
}

func (w *way) into(s value.Step) {
	w.steps = append(w.steps, s)
}

func (w *way) back() {
	w.steps = w.steps[:len(w.steps)-1]
}

func (w *way) deep() int {
	return len(w.steps)
}

// to is the whole way to where more steps lead from here; new memory.
func (w *way) to(more ...value.Step) []value.Step {
	return slices.Concat(w.steps, more)
}

// pair is two values that are held against each other.
type pair struct {
	a, b value.Value
}

// kind is the kind of both, if they are two Lists, or two Maps; else Null.
func (p pair) kind() int {
	k := p.a.Kind()
	if k == p.b.Kind() && (k == value.KindList || k == value.KindMap) {
		return k
	}
	return value.KindNull
}

// span is which of the changes that are found are a pair's, and how deep this one stood.
type span struct {
	from, to, deep int
}

// gatherer gathers changes.
type gatherer struct {
	way
	found []Change
	// The pairs that aren't gone through. No recursion: values may stand in one another deeper than a stack has room.
	open []level
	// The changes of Lists and Maps: none are gone through twice, in however many places they stand. (Two of them are equal if they are one in memory.)
	told map[pair]span
}

// all gathers the changes of two values.
func (g *gatherer) all(p pair) {
	g.hold(p)
	for len(g.open) > 0 {
		g.goOn()
	}
}

// hold gathers the changes of a pair, and tells whether it is through with that: else the pair is left open.
func (g *gatherer) hold(p pair) bool {
	if p.kind() == value.KindNull {
		if !value.Same(p.a, p.b) {
			g.tell(Change{A: p.a, B: p.b, Old: true, New: true})
		}
		return true
	}
	if s, ok := g.told[p]; ok {
		g.again(s)
		return true
	}
	if p.a == p.b {
		return true
	}
	g.open = append(g.open, levelOf(p, len(g.found)))
	return false
}

// goOn takes the next step in the last pair that is open.
func (g *gatherer) goOn() {
	l := &g.open[len(g.open)-1]
	if l.otherLength() {
		g.tell(Change{A: l.a, B: l.b, Old: true, New: true})
		g.close()
		return
	}
	s, c, ok := l.next()
	if !ok {
		g.close()
		return
	}
	g.into(s)
	if c.Old && c.New {
		if !g.hold(pair{c.A, c.B}) {
			return
		}
	} else {
		g.tell(c)
	}
	g.back()
}

// close ends the last pair that is open.
func (g *gatherer) close() {
	last := len(g.open) - 1
	l := g.open[last]
	g.told[l.pair] = span{l.from, len(g.found), g.deep()}
	g.open = g.open[:last]
	if last > 0 {
		g.back()
	}
}

// tell adds a change that is here.
func (g *gatherer) tell(c Change) {
	c.Way = g.to()
	g.found = append(g.found, c)
}

// again adds the changes of a pair that stood elsewhere, too.
func (g *gatherer) again(s span) {
	for _, c := range g.found[s.from:s.to] {
		c.Way = g.to(c.Way[s.deep:]...)
		g.found = append(g.found, c)
	}
}
