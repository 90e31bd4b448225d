package gate_test

import (
	"math/rand"
	"slices"
	"testing"

	"flange/api"
	"flange/gate"
	"flange/schema"
	"flange/text"
	"flange/value"
)

// agreesModel is whether a value agrees with a plan, as the document's words say it.
func agreesModel(plan, v value.Value) bool {
	if plan.Kind() == value.KindUnknown {
		return true
	}
	lists := plan.Kind() == value.KindList && v.Kind() == value.KindList && len(plan.Items()) == len(v.Items())
	maps := plan.Kind() == value.KindMap && v.Kind() == value.KindMap && slices.Equal(plan.Keys(), v.Keys())
	if !lists && !maps {
		return value.Same(plan, v)
	}
	for i, x := range plan.Items() {
		if !agreesModel(x, v.Items()[i]) {
			return false
		}
	}
	return true
}

func at(v value.Value, name string) value.Value {
	x, _ := v.At(name)
	return x
}

// otherModel is whether an attribute is planned otherwise than it was.
func otherModel(prior, planned value.Value, name string) bool {
	return prior.Kind() == value.KindMap && !value.Same(at(planned, name), at(prior, name))
}

// planModel is Plan's verdict of a plan that holds, told.
func planModel(s *schema.Schema, config, prior, planned value.Value, renew []string) string {
	for _, a := range s.Attrs() {
		c, p := at(config, a.Name), at(planned, a.Name)
		set := c.Kind() != value.KindNull
		if set && c.Known() && !value.Same(c, p) {
			return "set " + a.Name
		}
		if !set && !a.Own && p.Kind() != value.KindNull {
			return "unset " + a.Name
		}
	}
	for _, name := range renew {
		if _, ok := s.Find(name); !ok || !otherModel(prior, planned, name) {
			return "name " + name
		}
	}
	for _, a := range s.Attrs() {
		if a.New && otherModel(prior, planned, a.Name) && !slices.Contains(renew, a.Name) {
			return "hush " + a.Name
		}
	}
	return "fine"
}

// applyModel is Apply's verdict of what holds, told.
func applyModel(s *schema.Schema, planned, made value.Value) string {
	for _, a := range s.Attrs() {
		if !at(made, a.Name).Known() {
			return "hole " + a.Name
		}
		if !agreesModel(at(planned, a.Name), at(made, a.Name)) {
			return "broken " + a.Name
		}
	}
	return "fine"
}

// some is a small value by chance, with Unknowns; parts of it may stand in several places.
func some(r *rand.Rand, deep int) value.Value {
	n := r.Intn(7)
	switch {
	case n == 0:
		return value.Later()
	case n == 1:
		return value.Unset()
	case n == 2 || deep == 0:
		return value.Int(r.Intn(2))
	case n == 3:
		return value.Text("x")
	}
	items := make([]value.Value, r.Intn(3))
	for i := range items {
		items[i] = some(r, deep-1)
		if i > 0 && r.Intn(4) == 0 {
			items[i] = items[i-1]
		}
	}
	if n == 4 {
		return value.List(items...)
	}
	m, _ := value.Map([]string{"", "a"}[:len(items)], items)
	return m
}

// known is a value with something that is known in the place of each Unknown.
func known(r *rand.Rand, v value.Value) value.Value {
	items := slices.Clone(v.Items())
	for i, x := range items {
		items[i] = known(r, x)
	}
	switch v.Kind() {
	case value.KindUnknown:
		return []value.Value{value.Unset(), value.Int(1), value.List(value.Text("x"))}[r.Intn(3)]
	case value.KindList:
		return value.List(items...)
	case value.KindMap:
		v, _ = value.Map(v.Keys(), items)
	}
	return v
}

// nearly is a value that is another one, but for what chance makes of it.
func nearly(r *rand.Rand, v value.Value) value.Value {
	if r.Intn(8) == 0 {
		return some(r, 1)
	}
	items := slices.Clone(v.Items())
	for i, x := range items {
		items[i] = nearly(r, x)
	}
	switch v.Kind() {
	case value.KindList:
		return value.List(items...)
	case value.KindMap:
		v, _ = value.Map(v.Keys(), items)
	}
	return v
}

// TestAgreesModel holds very many values against plans.
func TestAgreesModel(t *testing.T) {
	r := rand.New(rand.NewSource(1))
	agree, alike, not := 0, 0, 0
	for range 200000 {
		plan := some(r, 4)
		v := nearly(r, plan)
		switch r.Intn(3) {
		case 0:
			v = known(r, v)
		case 1:
			v = some(r, 4)
		}
		got := gate.Agrees(plan, v)
		if got != agreesModel(plan, v) {
			t.Fatalf("Agrees %s, %s: %t", text.Write(plan), text.Write(v), got)
		}
		switch {
		case got && value.Same(plan, v):
			alike++
		case got:
			agree++
		default:
			not++
		}
		if !gate.Agrees(v, v) || !gate.Agrees(plan, known(r, plan)) {
			t.Fatalf("%s doesn't agree with itself, or %s not with what is known", text.Write(v), text.Write(plan))
		}
	}
	if agree < 10000 || alike < 1000 || not < 10000 {
		t.Errorf("%d agree, %d are the same, %d don't agree", agree, alike, not)
	}
}

// someSchema is a schema of four attributes that take all, but for their marks.
func someSchema(r *rand.Rand) *schema.Schema {
	marks := func() string {
		s := []string{"", "", " must", " own"}[r.Intn(4)]
		return s + []string{"", "", " new"}[r.Intn(3)]
	}
	s, _, _ := schema.Parse("version 1\nattr a any" + marks() + "\nattr b any" + marks() + "\nattr c any" + marks() + "\nattr d any" + marks() + "\n")
	return s
}

// all is a value of all four attributes.
func all(f func(name string) value.Value) value.Value {
	names := []string{"a", "b", "c", "d"}
	var items []value.Value
	for _, name := range names {
		items = append(items, f(name))
	}
	v, _ := value.Map(names, items)
	return v
}

// TestPlanModel holds very many plans against the model; most of them are nearly what they should be.
func TestPlanModel(t *testing.T) {
	r := rand.New(rand.NewSource(2))
	count := make(map[string]int)
	for range 60000 {
		s := someSchema(r)
		config, prior := some(r, 2), some(r, 2)
		if r.Intn(8) > 0 {
			config = all(func(string) value.Value { return some(r, 1) })
		}
		if r.Intn(4) > 0 {
			prior = all(func(name string) value.Value { return nearly(r, at(config, name)) })
		}
		planned := all(func(name string) value.Value {
			if r.Intn(10) == 0 {
				return some(r, 1)
			}
			if a, _ := s.Find(name); a.Own && r.Intn(2) == 0 {
				return at(prior, name)
			}
			return at(config, name)
		})
		var renew []string
		for _, name := range []string{"d", "a", "c", "b", "d", "e"} {
			if r.Intn(40) == 0 || otherModel(prior, planned, name) && r.Intn(4) > 0 {
				renew = append(renew, name)
			}
		}
		verdict := gate.Plan(s, config, prior, planned, renew...)
		want := planModel(s, config, prior, planned, renew)
		if told(verdict) != want {
			t.Fatalf("Plan by %q of %s, %s, %s, %q: %s; not %s", s.Print(), text.Write(config), text.Write(prior), text.Write(planned), renew, told(verdict), want)
		}
		count[gate.Rule(verdict.Rule)]++
		names := gate.Renew(s, prior, planned)
		for _, a := range s.Attrs() {
			if slices.Contains(names, a.Name) != (a.New && otherModel(prior, planned, a.Name)) || !slices.IsSorted(names) {
				t.Fatalf("Renew by %q of %s, %s: %q", s.Print(), text.Write(prior), text.Write(planned), names)
			}
		}
		if verdict.Rule == gate.Fine && gate.Plan(s, config, prior, planned, slices.Concat(names, renew)...) != verdict {
			t.Fatal("a plan with the names of Renew isn't fine")
		}
	}
	for _, rule := range []string{"fine", "set", "unset", "name", "hush"} {
		if count[rule] < 1000 {
			t.Errorf("%s: %d", rule, count[rule])
		}
	}
}

// TestApplyModel holds very many values against their plans.
func TestApplyModel(t *testing.T) {
	r := rand.New(rand.NewSource(3))
	count := make(map[string]int)
	for range 30000 {
		s := someSchema(r)
		planned := all(func(string) value.Value { return some(r, 2) })
		if r.Intn(20) == 0 {
			planned = some(r, 2)
		}
		made := all(func(name string) value.Value {
			if r.Intn(10) == 0 {
				return some(r, 2)
			}
			return known(r, at(planned, name))
		})
		verdict := gate.Apply(s, planned, made)
		if want := applyModel(s, planned, made); told(verdict) != want {
			t.Fatalf("Apply of %s, %s: %s; not %s", text.Write(planned), text.Write(made), told(verdict), want)
		}
		want := applyModel(s, made, made)
		if got := told(gate.Read(s, made)); got != want {
			t.Fatalf("Read of %s: %s; not %s", text.Write(made), got, want)
		}
		count[gate.Rule(verdict.Rule)]++
	}
	for _, rule := range []string{"fine", "hole", "broken"} {
		if count[rule] < 1000 {
			t.Errorf("%s: %d", rule, count[rule])
		}
	}
}

// TestFilled: a filled configuration is a plan that is fine, where nothing was; what is known and agrees with a plan that is fine is fine, too.
func TestFilled(t *testing.T) {
	r := rand.New(rand.NewSource(4))
	filled, fine := 0, 0
	for range 15000 {
		s := someSchema(r)
		v := all(func(string) value.Value { return some(r, 2) })
		full, e := s.Fill(v)
		if e != api.OK {
			continue
		}
		filled++
		nothing := []value.Value{value.Unset(), value.Later(), value.Int(1), value.List(full)}[r.Intn(4)]
		if got := gate.Plan(s, full, nothing, full); got != (gate.Verdict{}) {
			t.Fatalf("Plan of %s by %q: %v", text.Write(full), s.Print(), got)
		}
		prior := all(func(name string) value.Value { return known(r, nearly(r, at(full, name))) })
		planned := all(func(name string) value.Value {
			if x := at(full, name); x.Known() {
				return x
			}
			return at(prior, name)
		})
		if gate.Plan(s, full, prior, planned, gate.Renew(s, prior, planned)...).Rule != gate.Fine {
			t.Fatalf("Plan of %s by %q: isn't fine", text.Write(planned), s.Print())
		}
		for _, plan := range []value.Value{full, planned} {
			made := known(r, plan)
			if !gate.Agrees(plan, made) || gate.Apply(s, plan, made) != (gate.Verdict{}) || gate.Read(s, made) != (gate.Verdict{}) {
				t.Fatalf("%s, made of %s, isn't fine", text.Write(made), text.Write(plan))
			}
			fine++
		}
	}
	if filled < 2000 || fine < 4000 {
		t.Errorf("%d are filled, %d are fine", filled, fine)
	}
}
