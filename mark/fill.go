package mark

import (
	"flange/api"
	"flange/value"
)

// pair is a value, and what is known in its place.
type pair struct {
	v, known value.Value
}

// filler fills pairs; the last one that waits first.
type filler struct {
	waits []pair
	// What has become of Lists and Maps: none are filled twice, in however many places they stand. (Two of them are equal if they are one in memory.)
	made map[pair]value.Value
}

// of is what becomes of a pair, if it is there by now: of others than two Lists, or two Maps, it always is.
func (f *filler) of(p pair) (value.Value, bool) {
	if p.v.Kind() == value.KindUnknown {
		return p.known, true
	}
	if p.v.Known() || p.v.Kind() != p.known.Kind() {
		return p.v, true
	}
	x, ok := f.made[p]
	return x, ok
}

// goOn takes off the last pair that waits, if it is filled; else brings it nearer to that.
func (f *filler) goOn() {
	last := len(f.waits) - 1
	if _, ok := f.of(f.waits[last]); ok {
		f.waits = f.waits[:last]
		return
	}
	f.fill(f.waits[last])
}

// fill fills a List or a Map, if all is filled that stands in it; what isn't waits behind it, so that it comes first.
func (f *filler) fill(p pair) {
	waited := len(f.waits)
	keys, items := p.v.Keys(), p.v.Items()
	for i, x := range items {
		step := value.Step{At: i}
		if p.v.Kind() == value.KindMap {
			step = byKey(keys[i])
		}
		known, e := p.known.Go(step)
		if e != api.OK {
			continue
		}
		inner := pair{x, known}
		y, ok := f.of(inner)
		if !ok {
			f.waits = append(f.waits, inner)
		}
		items[i] = y
	}
	if len(f.waits) > waited {
		return
	}
	if p.v.Kind() == value.KindList {
		f.made[p] = value.List(items...)
		return
	}
	f.made[p], _ = value.Map(keys, items)
}
