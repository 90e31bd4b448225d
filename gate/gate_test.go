package gate_test

import (
	"math"
	"slices"
	"strings"
	"testing"

	"flange/api"
	"flange/gate"
	"flange/schema"
	"flange/text"
	"flange/value"
)

// example has attributes of all marks that the gate asks for: a none, b own, c new, d own and new, e none.
const example = "version 1\nattr a int\nattr b text own\nattr c text new\nattr d any own new\nattr e any\n"

// read is a text's value, which must be there.
func read(t *testing.T, s string) value.Value {
	t.Helper()
	v, at, e := text.Read(s)
	if e != api.OK {
		t.Fatalf("value %s: %d, %d", s, at, e)
	}
	return v
}

// parse is a text's schema, which must be there.
func parse(t *testing.T, s string) *schema.Schema {
	t.Helper()
	x, line, e := schema.Parse(s)
	if e != api.OK {
		t.Fatalf("schema %q: %d, %d", s, line, e)
	}
	return x
}

// told is a verdict, told: its rule's name, and a blank and its name, if it has one.
func told(v gate.Verdict) string {
	return strings.TrimSuffix(gate.Rule(v.Rule)+" "+v.Name, " ")
}

// words is the words of a text.
func words(s string) []string {
	return strings.Fields(s)
}

func TestRule(t *testing.T) {
	rules := []int{gate.Fine, gate.Shape, gate.Set, gate.Unset, gate.Hole, gate.Broken, gate.Name, gate.Hush}
	names := []string{"fine", "shape", "set", "unset", "hole", "broken", "name", "hush"}
	for i, rule := range rules {
		if rule != i || gate.Rule(rule) != names[i] {
			t.Errorf("Rule %d, which is to be %d: %q", rule, i, gate.Rule(rule))
		}
	}
	for _, rule := range []int{-1, 8, 9, math.MinInt, math.MaxInt} {
		if got := gate.Rule(rule); got != "" {
			t.Errorf("Rule %d: %q", rule, got)
		}
	}
}

func TestAgrees(t *testing.T) {
	for _, x := range []struct {
		plan, v string
		want    bool
	}{
		// What isn't known may be anything.
		{"?", "null", true}, {"?", "?", true}, {"?", "true", true}, {"?", "1", true}, {"?", "(1,2)", true}, {"?", `"x"`, true}, {"?", "[1,?]", true}, {"?", `{"a":?}`, true},
		// But not the other way round.
		{"null", "?", false}, {"1", "?", false}, {"[]", "?", false}, {"{}", "?", false}, {"[?]", "?", false}, {`{"a":?}`, "?", false},
		{"null", "null", true}, {"true", "true", true}, {"true", "false", false}, {"1", "1", true}, {"1", "2", false}, {"(1,2)", "(1,2)", true}, {"(1,2)", "(2,1)", false}, {`"x"`, `"x"`, true}, {`"x"`, `"y"`, false},
		{"null", "0", false}, {"0", "null", false}, {"null", "[]", false}, {"null", "{}", false}, {"1", "(1,0)", false}, {"1", `"1"`, false}, {"false", "null", false}, {`""`, "null", false},
		{"[]", "[]", true}, {"{}", "{}", true}, {"[]", "{}", false}, {"{}", "[]", false}, {"[1]", "1", false}, {"1", "[1]", false},
		{"[?]", "[1]", true}, {"[?]", "[null]", true}, {"[?]", "[?]", true}, {"[?]", "[]", false}, {"[]", "[?]", false}, {"[?]", "[1,2]", false}, {"[?,?]", "[1]", false},
		{"[1,?]", "[1,2]", true}, {"[1,?]", "[2,2]", false}, {"[?,1]", "[2,1]", true}, {"[?,1]", "[2,2]", false}, {"[1,2]", "[2,1]", false}, {"[1,2]", "[1,?]", false},
		{`{"a":?}`, `{"a":1}`, true}, {`{"a":?}`, `{"a":null}`, true}, {`{"a":?}`, "{}", false}, {`{"a":null}`, "{}", false}, {"{}", `{"a":null}`, false}, {"{}", `{"a":?}`, false}, {`{"a":?}`, `{"b":1}`, false}, {`{"a":1}`, `{"b":1}`, false},
		{`{"a":?}`, `{"a":1,"b":1}`, false}, {`{"a":?,"b":1}`, `{"a":1}`, false}, {`{"a":?,"b":1}`, `{"a":7,"b":1}`, true}, {`{"a":?,"b":1}`, `{"a":7,"b":2}`, false}, {`{"a":1,"b":?}`, `{"a":2,"b":?}`, false},
		{`{"":?}`, `{"":1}`, true}, {`{"":?}`, `{"a":1}`, false}, {"[?]", `{"a":1}`, false}, {`{"a":?}`, "[1]", false},
		{`[{"a":[?,1]},?]`, `[{"a":[[],1]},{}]`, true}, {`[{"a":[?,1]},?]`, `[{"a":[[],2]},{}]`, false}, {`[{"a":[?,1]},?]`, `[{"a":[1]},1]`, false}, {`{"a":[{"b":?}]}`, `{"a":[{"b":{"c":1}}]}`, true}, {`{"a":[{"b":{"c":1}}]}`, `{"a":[{"b":?}]}`, false},
	} {
		if got := gate.Agrees(read(t, x.plan), read(t, x.v)); got != x.want {
			t.Errorf("Agrees %s, %s: %t", x.plan, x.v, got)
		}
	}
}

const (
	config = `{"a":1,"b":?,"c":"x","d":?,"e":null}`
	prior  = `{"a":1,"b":"i","c":"x","d":2,"e":null}`
)

func TestPlan(t *testing.T) {
	s := parse(t, example)
	for _, x := range []struct{ config, prior, planned, renew, want string }{
		{config, "null", config, "", "fine"},
		{config, prior, prior, "", "fine"},
		{config, prior, `{"a":1,"b":"j","c":"x","d":2,"e":null}`, "", "fine"},
		{config, prior, `{"a":1,"b":null,"c":"x","d":2,"e":null}`, "", "fine"},
		{config, "null", `{"a":1,"b":"j","c":"x","d":[?],"e":null}`, "", "fine"},
		// Set: what the configuration sets, all known.
		{config, "null", `{"a":2,"b":?,"c":"x","d":?,"e":null}`, "", "set a"},
		{config, "null", `{"a":?,"b":?,"c":"x","d":?,"e":null}`, "", "set a"},
		{config, "null", `{"a":null,"b":?,"c":"x","d":?,"e":null}`, "", "set a"},
		{config, "null", `{"a":1,"b":?,"c":"y","d":?,"e":null}`, "", "set c"},
		{config, prior, `{"a":2,"b":"i","c":"y","d":2,"e":3}`, "", "set a"},
		{`{"b":"x"}`, "null", `{"a":null,"b":"y","c":null,"d":?,"e":null}`, "", "set b"},
		{`{"b":"x"}`, "null", `{"a":null,"b":?,"c":null,"d":?,"e":null}`, "", "set b"},
		{`{"b":"x"}`, "null", `{"a":null,"b":"x","c":null,"d":?,"e":null}`, "", "fine"},
		{`{"d":[1]}`, "null", `{"a":null,"b":?,"c":null,"d":[2],"e":null}`, "", "set d"},
		{`{"e":[]}`, "null", `{"a":null,"b":?,"c":null,"d":?,"e":{}}`, "", "set e"},
		{`{"e":false}`, "null", `{"a":null,"b":?,"c":null,"d":?,"e":null}`, "", "set e"},
		{`{"e":1}`, "null", `{"a":null,"b":?,"c":null,"d":?,"e":(1,0)}`, "", "set e"},
		{`{"e":{"k":[1]}}`, "null", `{"a":null,"b":?,"c":null,"d":?,"e":{"k":[1]}}`, "", "fine"},
		// What isn't known, not all through, either, is no promise; but it is set.
		{`{"a":?}`, "null", `{"a":7,"b":?,"c":null,"d":?,"e":null}`, "", "fine"},
		{`{"a":?}`, "null", `{"a":?,"b":?,"c":null,"d":?,"e":null}`, "", "fine"},
		{`{"a":?}`, "null", `{"a":null,"b":?,"c":null,"d":?,"e":null}`, "", "fine"},
		{`{"e":[1,?]}`, "null", `{"a":null,"b":?,"c":null,"d":?,"e":[2,2]}`, "", "fine"},
		{`{"e":{"k":?}}`, "null", `{"a":null,"b":?,"c":null,"d":?,"e":7}`, "", "fine"},
		// Unset: what isn't set, and isn't the provider's own.
		{`{}`, "null", `{"a":1,"b":?,"c":null,"d":?,"e":null}`, "", "unset a"},
		{`{"a":null}`, "null", `{"a":1,"b":?,"c":null,"d":?,"e":null}`, "", "unset a"},
		{`{"a":null}`, "null", `{"a":?,"b":?,"c":null,"d":?,"e":null}`, "", "unset a"},
		{`{"a":null}`, prior, prior, "", "unset a"},
		{`{}`, "null", `{"a":null,"b":?,"c":"","d":?,"e":1}`, "", "unset c"},
		{`{}`, "null", `{"a":null,"b":"x","c":null,"d":7,"e":[]}`, "", "unset e"},
		{`{}`, "null", `{"a":null,"b":"x","c":null,"d":7,"e":null}`, "", "fine"},
		// Attribute by attribute: none comes ahead of the other.
		{`{"c":"x"}`, "null", `{"a":1,"b":?,"c":"y","d":?,"e":null}`, "", "unset a"},
		{`{"a":1,"c":null}`, "null", `{"a":2,"b":?,"c":"y","d":?,"e":null}`, "", "set a"},
		{`{"c":null,"e":1}`, "null", `{"a":null,"b":?,"c":"y","d":?,"e":2}`, "", "unset c"},
		// A configuration that is no Map sets nothing; keys that are no attributes' aren't asked.
		{"null", "null", `{"a":null,"b":?,"c":null,"d":?,"e":null}`, "", "fine"},
		{"?", "null", `{"a":1,"b":?,"c":null,"d":?,"e":null}`, "", "unset a"},
		{"[1]", "null", `{"a":1,"b":?,"c":null,"d":?,"e":null}`, "", "unset a"},
		{`{"a":1,"zz":3}`, `{"a":1,"zz":4}`, `{"a":1,"b":null,"c":null,"d":null,"e":null}`, "", "fine"},
		{`{"a":"text"}`, "null", `{"a":1,"b":?,"c":null,"d":?,"e":null}`, "", "set a"},
	} {
		if got := told(gate.Plan(s, read(t, x.config), read(t, x.prior), read(t, x.planned), words(x.renew)...)); got != x.want {
			t.Errorf("Plan %s, %s, %s: %s; not %s", x.config, x.prior, x.planned, got, x.want)
		}
	}
}

// TestPlanRenew is of names to be replaced by.
func TestPlanRenew(t *testing.T) {
	s := parse(t, example)
	const free = `{"a":?,"b":?,"c":?,"d":?,"e":?}`
	for _, x := range []struct{ config, prior, planned, renew, want string }{
		{free, prior, prior, "a", "name a"},
		{free, prior, prior, "zz", "name zz"},
		{free, prior, `{"a":2,"b":"i","c":"x","d":2,"e":null}`, "", "fine"},
		{free, prior, `{"a":2,"b":"i","c":"x","d":2,"e":null}`, "a", "fine"},
		{free, prior, `{"a":2,"b":"i","c":"x","d":2,"e":null}`, "a a a", "fine"},
		{free, prior, `{"a":2,"b":"i","c":"x","d":2,"e":null}`, "a b", "name b"},
		{free, prior, `{"a":2,"b":"i","c":"x","d":2,"e":null}`, "e b", "name e"},
		{free, prior, `{"a":2,"b":"i","c":"x","d":2,"e":null}`, "a A", "name A"},
		{free, prior, `{"a":?,"b":"i","c":"x","d":2,"e":?}`, "e a", "fine"},
		{free, prior, `{"a":1,"b":null,"c":"x","d":2,"e":1}`, "e b", "fine"},
		// Hush.
		{free, prior, `{"a":1,"b":"i","c":"y","d":2,"e":null}`, "", "hush c"},
		{free, prior, `{"a":1,"b":"i","c":?,"d":2,"e":null}`, "", "hush c"},
		{free, prior, `{"a":1,"b":"i","c":null,"d":2,"e":null}`, "", "hush c"},
		{free, prior, `{"a":1,"b":"i","c":"y","d":2,"e":null}`, "c", "fine"},
		{free, prior, `{"a":1,"b":"i","c":"x","d":?,"e":null}`, "", "hush d"},
		{free, prior, `{"a":1,"b":"i","c":"y","d":3,"e":null}`, "", "hush c"},
		{free, prior, `{"a":1,"b":"i","c":"y","d":3,"e":null}`, "c", "hush d"},
		{free, prior, `{"a":1,"b":"i","c":"y","d":3,"e":null}`, "d", "hush c"},
		{free, prior, `{"a":1,"b":"i","c":"y","d":3,"e":null}`, "d c", "fine"},
		{free, prior, `{"a":2,"b":"i","c":"y","d":2,"e":null}`, "a", "hush c"},
		{free, prior, `{"a":1,"b":"i","c":"y","d":2,"e":null}`, "a", "name a"},
		{free, prior, `{"a":1,"b":"i","c":"y","d":2,"e":null}`, "c a", "name a"},
		// What wasn't there was Null.
		{free, "{}", `{"a":null,"b":null,"c":null,"d":null,"e":null}`, "", "fine"},
		{free, "{}", `{"a":1,"b":?,"c":null,"d":null,"e":null}`, "a b", "fine"},
		{free, "{}", `{"a":1,"b":?,"c":null,"d":null,"e":null}`, "a c", "name c"},
		{free, "{}", `{"a":1,"b":?,"c":null,"d":?,"e":null}`, "", "hush d"},
		{free, `{"c":"x"}`, `{"a":1,"b":?,"c":null,"d":null,"e":null}`, "", "hush c"},
		{free, `{"zz":1}`, `{"a":1,"b":?,"c":null,"d":null,"e":null}`, "zz", "name zz"},
		{free, `{"c":?}`, `{"a":1,"b":?,"c":?,"d":null,"e":null}`, "", "fine"},
		{free, `{"c":?}`, `{"a":1,"b":?,"c":?,"d":null,"e":null}`, "c", "name c"},
		// Of nothing nothing is planned otherwise.
		{free, "null", free, "", "fine"}, {free, "?", free, "", "fine"}, {free, "[1]", free, "", "fine"}, {free, `"c"`, free, "", "fine"},
		{free, "null", free, "c", "name c"}, {free, "?", free, "a", "name a"}, {free, "[1]", free, "d", "name d"},
		// In their order.
		{`{"a":1}`, prior, `{"a":2,"b":"i","c":"x","d":2,"e":null}`, "zz", "set a"},
		{`{"a":null,"c":?}`, prior, `{"a":2,"b":"i","c":"y","d":2,"e":null}`, "zz", "unset a"},
		{`{"a":1,"e":1}`, prior, `{"a":1,"b":"i","c":null,"d":2,"e":2}`, "", "set e"},
		{free, prior, `{"a":1,"b":"i","c":"y","d":2,"e":null}`, "zz c", "name zz"},
		{free, prior, `{"a":1,"b":"i","c":7,"d":2,"e":null}`, "zz", "shape c"},
	} {
		if got := told(gate.Plan(s, read(t, x.config), read(t, x.prior), read(t, x.planned), words(x.renew)...)); got != x.want {
			t.Errorf("Plan %s, %s, %s by %q: %s; not %s", x.config, x.prior, x.planned, x.renew, got, x.want)
		}
	}
	if got := gate.Plan(s, read(t, free), read(t, prior), read(t, prior), ""); got != (gate.Verdict{Rule: gate.Name}) {
		t.Errorf("Plan by an empty name: %v", got)
	}
}

// TestShape is of values that don't hold.
func TestShape(t *testing.T) {
	s := parse(t, example)
	for _, x := range []struct{ v, want string }{
		{"null", "shape"}, {"?", "shape"}, {"1", "shape"}, {"[]", "shape"},
		{"{}", "shape a"},
		{`{"a":1,"b":"x","c":"x","d":1}`, "shape e"},
		{`{"a":1,"c":"x","d":1}`, "shape b"},
		{`{"a":1,"b":"x","c":"x","d":1,"e":1,"f":1}`, "shape f"},
		{`{"a":1,"b":7,"f":1}`, "shape b"},
		{`{"A":1,"a":"x"}`, "shape A"},
		{`{"":1}`, "shape"},
		{`{"a":"x","b":"x","c":"x","d":1,"e":1}`, "shape a"},
		{`{"a":1,"b":"x","c":["x"],"d":?,"e":1}`, "shape c"},
	} {
		v := read(t, x.v)
		if got := told(gate.Plan(s, v, v, v, "zz")); got != x.want {
			t.Errorf("Plan %s: %s", x.v, got)
		}
		if got := told(gate.Apply(s, value.Later(), v)); got != x.want {
			t.Errorf("Apply %s: %s", x.v, got)
		}
		if got := told(gate.Read(s, v)); got != x.want {
			t.Errorf("Read %s: %s", x.v, got)
		}
	}
	for _, v := range []value.Value{read(t, config), read(t, "{}"), value.Unset()} {
		want := gate.Verdict{Rule: gate.Shape}
		if gate.Plan(nil, v, v, v, "a") != want || gate.Apply(nil, v, v) != want || gate.Read(nil, v) != want || len(gate.Renew(nil, v, v)) != 0 {
			t.Error("a nil schema")
		}
	}
}

func TestApply(t *testing.T) {
	s := parse(t, example)
	for _, x := range []struct{ planned, made, want string }{
		{config, `{"a":1,"b":"i","c":"x","d":2,"e":null}`, "fine"},
		{config, `{"a":1,"b":null,"c":"x","d":[null],"e":null}`, "fine"},
		{prior, prior, "fine"},
		// Hole.
		{config, config, "hole b"},
		{config, `{"a":?,"b":"i","c":"x","d":2,"e":null}`, "hole a"},
		{config, `{"a":1,"b":"i","c":"x","d":[1,{"k":?}],"e":null}`, "hole d"},
		{config, `{"a":1,"b":"i","c":"x","d":2,"e":?}`, "hole e"},
		// Broken.
		{config, `{"a":2,"b":"i","c":"x","d":2,"e":null}`, "broken a"},
		{config, `{"a":null,"b":"i","c":"x","d":2,"e":null}`, "broken a"},
		{config, `{"a":1,"b":"i","c":"y","d":2,"e":null}`, "broken c"},
		{config, `{"a":1,"b":"i","c":"x","d":2,"e":[]}`, "broken e"},
		{`{"a":1,"b":?,"c":"x","d":[1,?],"e":null}`, `{"a":1,"b":"i","c":"x","d":[1,2],"e":null}`, "fine"},
		{`{"a":1,"b":?,"c":"x","d":[1,?],"e":null}`, `{"a":1,"b":"i","c":"x","d":[2,2],"e":null}`, "broken d"},
		{`{"a":1,"b":?,"c":"x","d":[1,?],"e":null}`, `{"a":1,"b":"i","c":"x","d":[1],"e":null}`, "broken d"},
		// Attribute by attribute; of one attribute Hole first.
		{config, `{"a":2,"b":?,"c":"x","d":2,"e":null}`, "broken a"},
		{config, `{"a":1,"b":?,"c":"y","d":2,"e":null}`, "hole b"},
		{config, `{"a":1,"b":"i","c":"y","d":?,"e":null}`, "broken c"},
		{config, `{"a":1,"b":"i","c":"x","d":2,"e":[?]}`, "hole e"},
		{prior, `{"a":1,"b":"i","c":?,"d":3,"e":null}`, "hole c"},
		// A plan that is no Map, or hasn't an attribute, has Null there.
		{"null", `{"a":null,"b":null,"c":null,"d":null,"e":null}`, "fine"},
		{"{}", `{"a":null,"b":null,"c":null,"d":null,"e":null}`, "fine"},
		{"null", `{"a":null,"b":null,"c":null,"d":null,"e":1}`, "broken e"},
		{"?", `{"a":null,"b":"i","c":null,"d":null,"e":1}`, "broken b"},
		{"[?,?,?,?,?]", `{"a":1,"b":null,"c":null,"d":null,"e":null}`, "broken a"},
		{`{"a":?,"b":?,"c":?,"d":?}`, `{"a":1,"b":"i","c":"x","d":2,"e":3}`, "broken e"},
		{`{"a":?,"b":?,"c":?,"d":?,"zz":1}`, `{"a":1,"b":"i","c":"x","d":2,"e":null}`, "fine"},
	} {
		if got := told(gate.Apply(s, read(t, x.planned), read(t, x.made))); got != x.want {
			t.Errorf("Apply %s, %s: %s; not %s", x.planned, x.made, got, x.want)
		}
	}
}

func TestRead(t *testing.T) {
	s := parse(t, example)
	for _, x := range []struct{ v, want string }{
		{prior, "fine"},
		{`{"a":null,"b":null,"c":null,"d":null,"e":null}`, "fine"},
		{config, "hole b"},
		{`{"a":?,"b":?,"c":?,"d":?,"e":?}`, "hole a"},
		{`{"a":1,"b":"i","c":"x","d":2,"e":[{"k":?}]}`, "hole e"},
		{`{"a":?,"b":"i","c":"x","d":2}`, "shape e"},
	} {
		if got := told(gate.Read(s, read(t, x.v))); got != x.want {
			t.Errorf("Read %s: %s; not %s", x.v, got, x.want)
		}
	}
}

func TestRenew(t *testing.T) {
	s := parse(t, example)
	for _, x := range []struct{ prior, planned, want string }{
		{prior, prior, ""},
		{prior, `{"a":2,"b":"j","c":"x","d":2,"e":1}`, ""},
		{prior, `{"a":2,"b":"j","c":"y","d":2,"e":1}`, "c"},
		{prior, `{"a":1,"b":"i","c":"x","d":?,"e":null}`, "d"},
		{prior, `{"a":1,"b":"i","c":null,"d":(2,0),"e":null}`, "c d"},
		// Whether the plan holds isn't asked; what it hasn't is Null.
		{prior, "{}", "c d"}, {prior, "null", "c d"}, {prior, "?", "c d"}, {prior, `["x",2]`, "c d"},
		{prior, `{"c":"x"}`, "d"}, {`{"c":null}`, "{}", ""}, {`{"c":null}`, "null", ""}, {`{"c":?,"d":[?]}`, `{"c":?,"d":[?]}`, ""}, {"{}", `{"c":1,"zz":1}`, "c"}, {"{}", "{}", ""},
		// Nothing was.
		{"null", config, ""}, {"?", config, ""}, {`["x",2]`, config, ""}, {`"c"`, config, ""},
	} {
		if got := gate.Renew(s, read(t, x.prior), read(t, x.planned)); !slices.Equal(got, words(x.want)) {
			t.Errorf("Renew %s, %s: %q; not %q", x.prior, x.planned, got, x.want)
		}
	}
}

// TestExample is the document's own.
func TestExample(t *testing.T) {
	s := parse(t, "version 1\nattr id text own\nattr size int must new\n")
	got := gate.Plan(s, read(t, `{"id":?,"size":3}`), value.Unset(), read(t, `{"id":?,"size":4}`))
	if got != (gate.Verdict{Rule: gate.Set, Name: "size"}) {
		t.Errorf("Plan: %v", got)
	}
}

// TestMemory: what is handed in stays as it is, and nothing of it is kept or handed out.
func TestMemory(t *testing.T) {
	s := parse(t, example)
	renew := []string{"c", "d", "spare"}
	v := read(t, `{"a":1,"b":"i","c":"y","d":3,"e":null}`)
	was := read(t, prior)
	for range 2 {
		if got := gate.Plan(s, read(t, config), was, v, renew[:2]...); got != (gate.Verdict{Rule: gate.Set, Name: "c"}) {
			t.Errorf("Plan: %v", got)
		}
		names := gate.Renew(s, was, v)
		if !slices.Equal(names, []string{"c", "d"}) {
			t.Errorf("Renew: %q", names)
		}
		names[0], names[1] = "spoilt", "spoilt"
		_ = append(names, "spoilt")
	}
	if !slices.Equal(renew, []string{"c", "d", "spare"}) || text.Write(was) != prior || s.Print() != example {
		t.Error("what was handed in has changed")
	}
}
