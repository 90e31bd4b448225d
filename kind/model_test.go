package kind_test

import (
	"strings"

	"flange/value"
)

// model is a type as the document's words make it: the tests hold the program against it.
type model struct {
	form  string
	parts []model
	names []string
	may   []bool
}

func alone(form string) model {
	return model{form: form}
}

func of(form string, m ...model) model {
	return model{form: form, parts: m}
}

// object is one of names, of which those with a ? may be missing.
func object(names string, m ...model) model {
	o := of("object", m...)
	for _, n := range strings.Fields(names) {
		o.names = append(o.names, strings.TrimSuffix(n, "?"))
		o.may = append(o.may, strings.HasSuffix(n, "?"))
	}
	return o
}

func (m model) text() string {
	var l []string
	for i, p := range m.parts {
		s := p.text()
		if m.form == "object" {
			s = m.names[i] + map[bool]string{true: "?:", false: ":"}[m.may[i]] + s
		}
		l = append(l, s)
	}
	s := strings.Join(l, ",")
	switch m.form {
	case "list", "map":
		return m.form + "(" + s + ")"
	case "tuple":
		return "[" + s + "]"
	case "object":
		return "{" + s + "}"
	}
	return m.form
}

func (m model) deep() int {
	n := 1
	for _, p := range m.parts {
		n = max(n, 1+p.deep())
	}
	return n
}

func (m model) place(name string) int {
	for i, n := range m.names {
		if n == name {
			return i
		}
	}
	return -1
}

func (m model) missing(v value.Value) []string {
	var l []string
	for i, n := range m.names {
		if _, ok := v.At(n); !ok && !m.may[i] {
			l = append(l, n)
		}
	}
	return l
}

func (m model) zero() value.Value {
	switch m.form {
	case "bool":
		return value.Of(false)
	case "int":
		return value.Int(0)
	case "point":
		return point(0, 0)
	case "text":
		return value.Text("")
	case "list":
		return value.List()
	case "map":
		return tie()
	case "tuple":
		var l []value.Value
		for _, p := range m.parts {
			l = append(l, p.zero())
		}
		return value.List(l...)
	case "object":
		var l []any
		for i, p := range m.parts {
			if !m.may[i] {
				l = append(l, m.names[i], p.zero())
			}
		}
		return tie(l...)
	}
	return value.Unset()
}

// wrongs is all ways to what isn't taken, in the order in which the first one is told.
func (m model) wrongs(v value.Value) [][]value.Step {
	here := [][]value.Step{nil}
	k := v.Kind()
	if k <= value.KindUnknown || m.form == "any" {
		return nil
	}
	n, _ := v.Int()
	kinds := map[string]int{"bool": 2, "int": 3, "point": 4, "text": 5, "list": 6, "tuple": 6, "map": 7, "object": 7}
	switch {
	case m.form == "point" && k == value.KindInt && n >= -edge && n <= edge:
		return nil
	case k != kinds[m.form]:
		return here
	case m.form == "tuple" && len(v.Items()) != len(m.parts):
		return here
	}
	var l [][]value.Step
	for i, x := range v.Items() {
		p := i
		if m.form == "list" || m.form == "map" {
			p = 0
		}
		s := value.Step{At: i}
		if k == value.KindMap {
			s = key(v.Keys()[i])
		}
		if m.form == "object" {
			p = m.place(s.Key)
		}
		if p < 0 {
			l = append(l, []value.Step{s})
			continue
		}
		for _, w := range m.parts[p].wrongs(x) {
			l = append(l, append([]value.Step{s}, w...))
		}
	}
	for _, n := range m.missing(v) {
		l = append(l, []value.Step{key(n)})
	}
	return l
}

// models is types of all forms, within one another.
func models() []model {
	first := []model{alone("any"), alone("bool"), alone("int"), alone("point"), alone("text"), of("tuple"), object("")}
	all := append([]model{}, first...)
	for i, a := range first {
		all = append(all, of("list", a), of("map", a), of("tuple", a), object("a", a), object("a?", a))
		for j, b := range first {
			all = append(all, of("tuple", a, b), object("a b?", a, b), object("a? b", a, b))
			if (i+j)%3 == 0 {
				all = append(all, object("a? b?", a, b), object("b c1", a, b), of("tuple", a, b, a))
			}
		}
	}
	second := all
	for i, a := range second {
		b := second[(i*7+3)%len(second)]
		all = append(all, of("list", a), of("map", a), of("tuple", a, b), object("a b?", a, b), object("a? ab b", b, a, a))
	}
	return all
}

// values is values of all kinds, within one another.
func values() []value.Value {
	first := []value.Value{value.Unset(), value.Later(), value.Of(true), value.Int(edge), value.Int(-edge), value.Int(edge + 1), value.Int(-edge - 1), point(1, 2), value.Text("x"), value.List(), tie()}
	all := append([]value.Value{}, first...)
	for _, a := range first {
		all = append(all, value.List(a), tie("a", a), tie("b", a), tie("c1", a), tie("", a))
		for _, b := range first {
			all = append(all, value.List(a, b), tie("a", a, "b", b), tie("b", a, "c1", b), tie("a", a, "ab", a, "b", b))
		}
	}
	second := all
	for i, a := range second {
		b := second[(i*11+5)%len(second)]
		all = append(all, value.List(a), value.List(a, b), tie("a", a, "b", b), tie("a", b, "ab", a, "b", a), tie("B", b, "a", a))
	}
	return all
}
