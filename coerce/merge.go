package coerce

import (
	"flange/value"
)

// pair is two values that are to be merged.
type pair struct {
	a, b value.Value
}

// merger merges pairs; the last one that waits first.
type merger struct {
	waits []pair
	// What has become of Maps: none are merged twice, in however many places they stand. (Two of them are equal if they are one in memory.)
	made map[pair]value.Value
}

// of is the merger of a pair, if it is there by now: of others than Maps it always is.
func (m *merger) of(p pair) (value.Value, bool) {
	if p.a.Kind() == value.KindMap && p.b.Kind() == value.KindMap {
		x, ok := m.made[p]
		return x, ok
	}
	if p.b.Kind() == value.KindNull {
		return p.a, true
	}
	return p.b, true
}

// goOn takes off the last pair that waits, if it is merged; else brings it nearer to that.
func (m *merger) goOn() {
	last := len(m.waits) - 1
	if _, ok := m.of(m.waits[last]); ok {
		m.waits = m.waits[:last]
		return
	}
	m.join(m.waits[last])
}

// join merges two Maps, if all is merged that stands under the keys of both; what isn't waits behind them, so that it comes first.
func (m *merger) join(p pair) {
	waited := len(m.waits)
	keys, items := p.a.Keys(), p.a.Items()
	for i, k := range keys {
		y, ok := p.b.At(k)
		if !ok {
			continue
		}
		inner := pair{items[i], y}
		items[i], ok = m.of(inner)
		if !ok {
			m.waits = append(m.waits, inner)
		}
	}
	if len(m.waits) > waited {
		return
	}
	theirs := p.b.Items()
	for i, k := range p.b.Keys() {
		if _, ok := p.a.At(k); !ok {
			keys, items = append(keys, k), append(items, theirs[i])
		}
	}
	m.made[p], _ = value.Map(keys, items)
}
