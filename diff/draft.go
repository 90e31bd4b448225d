package diff

import (
	"slices"

	"flange/api"
	"flange/value"
)

// draft is a value that is being changed. What has changed in it stands beside it till it is asked for: else each change would make anew all that its way leads through.
type draft struct {
	whole value.Value
	// What has been gone into, by steps as calls tell them; nil of what is taken out.
	parts map[value.Step]*draft
}

// change puts a change in its place.
func (d *draft) change(c Change) api.Errno {
	there, e := d.lead(c.Way)
	switch {
	case e == api.ErrType:
		return e
	case (e == api.OK) != c.Old:
		return api.ErrNone
	case c.Old && !value.Same(there.value(), c.A):
		return api.ErrState
	case !c.New:
		return d.takeOut(c.Way)
	case !c.Old:
		return d.add(c.Way, c.B)
	}
	*there = draft{whole: c.B}
	return api.OK
}

// lead is where steps lead.
func (d *draft) lead(l []value.Step) (*draft, api.Errno) {
	for _, s := range l {
		next, e := d.follow(s)
		if e != api.OK {
			return nil, e
		}
		d = next
	}
	return d, api.OK
}

// follow is where one step leads.
func (d *draft) follow(s value.Step) (*draft, api.Errno) {
	if leadsByKey(s) {
		s = byKey(s.Key)
	}
	part, ok := d.parts[s]
	if ok && part == nil {
		return nil, api.ErrNone
	}
	if ok {
		return part, api.OK
	}
	x, e := d.whole.Go(s)
	if e != api.OK {
		return nil, e
	}
	part = &draft{whole: x}
	d.lay(s, part)
	return part, api.OK
}

func (d *draft) lay(s value.Step, part *draft) {
	if d.parts == nil {
		d.parts = make(map[value.Step]*draft)
	}
	d.parts[s] = part
}

// takeOut takes what steps lead to out of its Map, of which it is known that it is one, if it is there.
func (d *draft) takeOut(l []value.Step) api.Errno {
	last := len(l) - 1
	if last < 0 || !leadsByKey(l[last]) {
		return api.ErrArg
	}
	in, e := d.lead(l[:last])
	if e != api.OK {
		return e
	}
	in.lay(byKey(l[last].Key), nil)
	return api.OK
}

// add puts a value where nothing is, as With does it: of steps, at least one, that are of their kinds.
func (d *draft) add(l []value.Step, x value.Value) api.Errno {
	last := len(l) - 1
	in, e := d.lead(l[:last])
	if e != api.OK {
		return e
	}
	s := l[last]
	if leadsByKey(s) {
		s = byKey(s.Key)
	} else if !in.reaches(s.At) {
		return api.ErrRange
	}
	in.lay(s, &draft{whole: x})
	return api.OK
}

// reaches tells whether a List has something in all places ahead of one.
func (d *draft) reaches(at int) bool {
	if at == 0 {
		return true
	}
	_, e := d.follow(value.Step{At: at - 1})
	return e == api.OK
}

// value is what has become of it.
func (d *draft) value() value.Value {
	if len(d.parts) == 0 {
		return d.whole
	}
	open := []*draft{d}
	for i := 0; i < len(open); i++ {
		for _, part := range open[i].parts {
			if part != nil && len(part.parts) > 0 {
				open = append(open, part)
			}
		}
	}
	// Each stands behind the one in which it is: so all that stands in one is made ahead of it. (Not by recursion: a stack might not have room.)
	for _, x := range slices.Backward(open) {
		x.shut()
	}
	return d.whole
}

// shut lays the parts, of which none is open, into the whole.
func (d *draft) shut() {
	if d.whole.Kind() == value.KindList {
		d.whole = d.list()
	} else {
		d.whole = d.table()
	}
	d.parts = nil
}

func (d *draft) list() value.Value {
	items := d.whole.Items()
	// Added places have no gaps between them.
	length := len(items)
	for s := range d.parts {
		length = max(length, s.At+1)
	}
	items = append(items, make([]value.Value, length-len(items))...)
	for s, part := range d.parts {
		items[s.At] = part.whole
	}
	return value.List(items...)
}

func (d *draft) table() value.Value {
	var keys []string
	var items []value.Value
	old := d.whole.Items()
	for i, k := range d.whole.Keys() {
		if _, ok := d.parts[byKey(k)]; !ok {
			keys, items = append(keys, k), append(items, old[i])
		}
	}
	for s, part := range d.parts {
		if part != nil {
			keys, items = append(keys, s.Key), append(items, part.whole)
		}
	}
	m, _ := value.Map(keys, items)
	return m
}
