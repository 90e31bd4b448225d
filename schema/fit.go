package schema

import (
	"flange/api"
	"flange/value"
)

// Fits tells what is wrong with a configuration.
func (s *Schema) Fits(v value.Value) (string, api.Errno) {
	if key, e := s.takes(v); e != api.OK {
		return key, e
	}
	for _, a := range s.attrs {
		if x, _ := v.At(a.Name); a.Must && isNull(x) {
			return a.Name, api.ErrNone
		}
	}
	return "", api.OK
}

// Holds tells what is wrong with a filled value.
func (s *Schema) Holds(v value.Value) (string, api.Errno) {
	if key, e := s.takes(v); e != api.OK {
		return key, e
	}
	for _, a := range s.attrs {
		if _, there := v.At(a.Name); !there {
			return a.Name, api.ErrNone
		}
	}
	return "", api.OK
}

// takes tells what is wrong with what a value has, whatever it hasn't.
func (s *Schema) takes(v value.Value) (string, api.Errno) {
	if s == nil {
		return "", api.ErrState
	}
	if v.Kind() != value.KindMap {
		return "", api.ErrType
	}
	items := v.Items()
	for i, key := range v.Keys() {
		place, ok := s.places[key]
		if !ok {
			return key, api.ErrName
		}
		if !s.attrs[place].Type.Takes(items[i]) {
			return key, api.ErrType
		}
	}
	return "", api.OK
}

// Fill is a configuration with all attributes.
func (s *Schema) Fill(v value.Value) (value.Value, api.Errno) {
	if _, e := s.Fits(v); e != api.OK {
		return value.Unset(), e
	}
	var names []string
	var items []value.Value
	for _, a := range s.attrs {
		x, _ := v.At(a.Name)
		if a.Own && isNull(x) {
			x = value.Later()
		}
		names, items = append(names, a.Name), append(items, x)
	}
	return value.Map(names, items)
}

// isNull tells of what stands under a key whether it is Null; what is missing is Null, too.
func isNull(v value.Value) bool {
	return v.Kind() == value.KindNull
}
