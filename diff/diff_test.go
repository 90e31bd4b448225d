package diff_test

import (
	"reflect"
	"strings"
	"testing"

	"flange/api"
	"flange/diff"
	"flange/text"
	"flange/value"
)

// read is a text's value, which must be there.
func read(t *testing.T, s string) value.Value {
	t.Helper()
	v, at, e := text.Read(s)
	if e != api.OK {
		t.Fatalf("value %s: %d, %d", s, at, e)
	}
	return v
}

// key is a step by a key, as calls tell it.
func key(k string) value.Step {
	return value.Step{Key: k, At: -1}
}

// at is a step by a place.
func at(i int) value.Step {
	return value.Step{At: i}
}

func steps(l ...value.Step) []value.Step {
	return l
}

func TestOf(t *testing.T) {
	for _, x := range []struct{ a, b, want string }{
		{`{"a":1}`, `{"a":2}`, "~ .\"a\" 1 2\n"},
		{`{"a":[1,2],"b":1}`, `{"a":[1,3],"c":1}`, "~ .\"a\"[1] 2 3\n- .\"b\" 1\n+ .\"c\" 1\n"},
		{"null", "null", ""}, {"?", "?", ""}, {"true", "true", ""}, {"7", "7", ""}, {"(1,2)", "(1,2)", ""}, {`"x"`, `"x"`, ""}, {"[]", "[]", ""}, {"{}", "{}", ""},
		{`{"a":[1,{"b":?}]}`, `{"a":[1,{"b":?}]}`, ""},
		{"null", "?", "~  null ?\n"}, {"true", "false", "~  true false\n"}, {"1", "(1,0)", "~  1 (1,0)\n"}, {"1", `"1"`, "~  1 \"1\"\n"}, {"(1,2)", "(1,3)", "~  (1,2) (1,3)\n"},
		{"[]", "{}", "~  [] {}\n"}, {"[1]", `{"a":1}`, "~  [1] {\"a\":1}\n"}, {"[]", "null", "~  [] null\n"}, {"{}", "?", "~  {} ?\n"},
		{"[]", "[1]", "~  [] [1]\n"}, {"[1,2]", "[1]", "~  [1,2] [1]\n"}, {"[1,2,3]", "[2,3]", "~  [1,2,3] [2,3]\n"},
		{"[1,2,3]", "[1,4,5]", "~ [1] 2 4\n~ [2] 3 5\n"},
		{"[[1],[2]]", "[[1,1],[3]]", "~ [0] [1] [1,1]\n~ [1][0] 2 3\n"},
		{"{}", `{"a":null}`, "+ .\"a\" null\n"}, {`{"a":null}`, "{}", "- .\"a\" null\n"}, {`{"a":null}`, `{"a":?}`, "~ .\"a\" null ?\n"},
		{`{"":1}`, `{"":2}`, "~ .\"\" 1 2\n"}, {`{"":1}`, "{}", "- .\"\" 1\n"},
		{`{"B":1,"a":1,"b":1}`, `{"A":2,"a":2,"c":2}`, "+ .\"A\" 2\n- .\"B\" 1\n~ .\"a\" 1 2\n- .\"b\" 1\n+ .\"c\" 2\n"},
		{`{"b":{"x":1,"z":[]},"c":1}`, `{"a":{},"b":{"y":1,"z":[null]},"c":1}`, "+ .\"a\" {}\n- .\"b\".\"x\" 1\n+ .\"b\".\"y\" 1\n~ .\"b\".\"z\" [] [null]\n"},
		{`{"a":{"b":1}}`, `{"a":[1]}`, "~ .\"a\" {\"b\":1} [1]\n"},
		{`{"a":{"b":1}}`, "{}", "- .\"a\" {\"b\":1}\n"},
		{`[{"a":1},[(1,2)]]`, `[{"a":1,"b":2},[(1,2)]]`, "+ [0].\"b\" 2\n"},
	} {
		l := diff.Of(read(t, x.a), read(t, x.b))
		if got := diff.Lines(l); got != x.want {
			t.Errorf("Of %s, %s: %q", x.a, x.b, got)
		}
		if len(l) != strings.Count(x.want, "\n") {
			t.Errorf("Of %s, %s: %d changes", x.a, x.b, len(l))
		}
	}
}

// TestOfFields is of what Lines doesn't show.
func TestOfFields(t *testing.T) {
	l := diff.Of(read(t, `{"":1,"a":[1,2],"b":1}`), read(t, `{"":1,"a":[1,3],"c":1}`))
	want := []diff.Change{
		{Way: steps(key("a"), at(1)), A: value.Int(2), B: value.Int(3), Old: true, New: true},
		{Way: steps(key("b")), A: value.Int(1), Old: true},
		{Way: steps(key("c")), B: value.Int(1), New: true},
	}
	if !reflect.DeepEqual(l, want) {
		t.Errorf("Of: %v", l)
	}
	l = diff.Of(value.Int(1), value.Later())
	if len(l) != 1 || len(l[0].Way) != 0 || !l[0].Old || !l[0].New || !value.Same(l[0].A, value.Int(1)) || !value.Same(l[0].B, value.Later()) {
		t.Errorf("Of: %v", l)
	}
}

// put is a change that puts b in the place of a.
func put(a, b value.Value, way ...value.Step) diff.Change {
	return diff.Change{Way: way, A: a, B: b, Old: true, New: true}
}

// add is a change that puts b where nothing is.
func add(b value.Value, way ...value.Step) diff.Change {
	return diff.Change{Way: way, B: b, New: true}
}

// drop is a change that takes a out.
func drop(a value.Value, way ...value.Step) diff.Change {
	return diff.Change{Way: way, A: a, Old: true}
}

// none is a change of nothing to nothing.
func none(way ...value.Step) diff.Change {
	return diff.Change{Way: way}
}

func TestApply(t *testing.T) {
	one, two, three := value.Int(1), value.Int(2), value.Int(3)
	for i, x := range []struct {
		a, want string
		l       []diff.Change
	}{
		{"1", "1", nil},
		{"1", "2", []diff.Change{put(one, two)}},
		{"1", "3", []diff.Change{put(one, two), put(two, three)}},
		{`{"a":1}`, `{"a":2}`, []diff.Change{put(one, two, key("a"))}},
		{`{"a":1}`, "{}", []diff.Change{drop(one, key("a"))}},
		{"{}", `{"a":1}`, []diff.Change{add(one, key("a"))}},
		{`{"":1}`, "{}", []diff.Change{drop(one, key(""))}},
		{"{}", `{"":1}`, []diff.Change{add(one, key(""))}},
		{`{"a":1}`, `{"a":2}`, []diff.Change{drop(one, key("a")), add(two, key("a"))}},
		{"{}", "{}", []diff.Change{add(one, key("a")), drop(one, key("a"))}},
		{`{"b":1}`, `{"a":1,"b":1,"c":1}`, []diff.Change{add(one, key("c")), add(one, key("a"))}},
		// A place beside a key, and one below 0, are none.
		{`{"a":1}`, `{"a":3}`, []diff.Change{put(one, two, value.Step{Key: "a", At: 0}), put(two, three, value.Step{Key: "a", At: -9})}},
		{`{"":1}`, `{"":3}`, []diff.Change{put(one, two, value.Step{At: -9}), put(two, three, key(""))}},
		{`{"a":1}`, "{}", []diff.Change{drop(one, value.Step{Key: "a", At: 5})}},
		{"{}", `{"a":1}`, []diff.Change{add(one, value.Step{Key: "a", At: 5})}},
		{"[1,2]", "[1,3]", []diff.Change{put(two, three, at(1))}},
		{"[]", "[1,2]", []diff.Change{add(one, at(0)), add(two, at(1))}},
		{"[]", "[3]", []diff.Change{add(one, at(0)), put(one, three, at(0))}},
		{`{"a":[{"b":1}]}`, `{"a":[{"b":2,"c":3}]}`, []diff.Change{put(one, two, key("a"), at(0), key("b")), add(three, key("a"), at(0), key("c"))}},
		{`{"a":[{"b":1}]}`, `{"a":[{}]}`, []diff.Change{drop(one, key("a"), at(0), key("b"))}},
		// What was changed is there for the next one, as a whole, too.
		{`{"a":{"b":1},"c":[1]}`, "3", []diff.Change{put(one, two, key("a"), key("b")), drop(read(t, "[1]"), key("c")), put(read(t, `{"a":{"b":2}}`), three)}},
		{`{"a":1}`, `{"a":{"b":[2]}}`, []diff.Change{put(one, read(t, "{}"), key("a")), add(read(t, "[]"), key("a"), key("b")), add(two, key("a"), key("b"), at(0))}},
		{`{"a":{"b":1}}`, `{"a":{"b":1}}`, []diff.Change{drop(read(t, `{"b":1}`), key("a")), add(read(t, "{}"), key("a")), add(one, key("a"), key("b"))}},
		// Nothing, where nothing is.
		{`{"a":1}`, `{"a":1}`, []diff.Change{none(key("b"))}},
		{`{"a":{}}`, `{"a":{}}`, []diff.Change{none(key("a"), key("b"))}},
		{`{"a":1}`, "{}", []diff.Change{drop(one, key("a")), none(key("a"))}},
		// Of what isn't there what was isn't asked; of what is gone what comes isn't.
		{"{}", `{"a":1}`, []diff.Change{{Way: steps(key("a")), A: three, B: one, New: true}}},
		{`{"a":1}`, "{}", []diff.Change{{Way: steps(key("a")), A: one, B: three, Old: true}}},
		{`{"a":?}`, `{"a":null}`, []diff.Change{put(value.Later(), value.Unset(), key("a"))}},
	} {
		got, e := diff.Apply(read(t, x.a), x.l...)
		if e != api.OK || text.Write(got) != x.want {
			t.Errorf("%d: Apply %s, %q: %s, %d", i, x.a, diff.Lines(x.l), text.Write(got), e)
		}
	}
}

func TestApplyWrong(t *testing.T) {
	one, two := value.Int(1), value.Int(2)
	for i, x := range []struct {
		a    string
		want api.Errno
		l    []diff.Change
	}{
		{"1", api.ErrType, []diff.Change{put(one, two, key("a"))}},
		{"1", api.ErrType, []diff.Change{add(two, at(0))}},
		{"null", api.ErrType, []diff.Change{add(two, key("a"))}},
		{"?", api.ErrType, []diff.Change{none(key("a"))}},
		{"[1]", api.ErrType, []diff.Change{put(one, two, key("a"))}},
		{"[1]", api.ErrType, []diff.Change{add(one, key(""))}},
		{"[1]", api.ErrType, []diff.Change{drop(one, value.Step{Key: "a", At: 0})}},
		{"[1]", api.ErrType, []diff.Change{drop(one, value.Step{At: -1})}},
		{`{"":1}`, api.ErrType, []diff.Change{put(one, two, at(0))}},
		{`{"a":1}`, api.ErrType, []diff.Change{drop(one, at(0))}},
		{`{"a":1}`, api.ErrType, []diff.Change{add(one, key("a"), key("b"))}},
		{`{"a":[1]}`, api.ErrType, []diff.Change{none(key("a"), at(0), at(0))}},
		{"1", api.ErrType, []diff.Change{put(one, two), add(two, key("a"))}},
		{"{}", api.ErrNone, []diff.Change{put(one, two, key("a"))}},
		{"{}", api.ErrNone, []diff.Change{drop(one, key("a"))}},
		{"{}", api.ErrNone, []diff.Change{drop(one, key("a"), at(0))}},
		{"[]", api.ErrNone, []diff.Change{put(one, two, at(0))}},
		{"[1]", api.ErrNone, []diff.Change{drop(one, at(1))}},
		{"[1]", api.ErrNone, []diff.Change{put(one, two, at(7), key("a"))}},
		{"1", api.ErrNone, []diff.Change{add(two)}},
		{"1", api.ErrNone, []diff.Change{none()}},
		{"null", api.ErrNone, []diff.Change{add(two)}},
		{`{"a":1}`, api.ErrNone, []diff.Change{add(two, key("a"))}},
		{`{"a":null}`, api.ErrNone, []diff.Change{add(two, key("a"))}},
		{`{"a":1}`, api.ErrNone, []diff.Change{none(key("a"))}},
		{"[1]", api.ErrNone, []diff.Change{add(two, at(0))}},
		{"[1]", api.ErrNone, []diff.Change{none(at(0))}},
		{`{"a":1}`, api.ErrNone, []diff.Change{drop(one, key("a")), put(one, two, key("a"))}},
		{`{"a":{"b":1}}`, api.ErrNone, []diff.Change{drop(read(t, `{"b":1}`), key("a")), put(one, two, key("a"), key("b"))}},
		{"1", api.ErrState, []diff.Change{put(two, one)}},
		{"1", api.ErrState, []diff.Change{drop(two)}},
		{`{"a":1}`, api.ErrState, []diff.Change{put(two, one, key("a"))}},
		{`{"a":1}`, api.ErrState, []diff.Change{drop(two, key("a"))}},
		{`{"a":null}`, api.ErrState, []diff.Change{put(value.Later(), one, key("a"))}},
		{"[1]", api.ErrState, []diff.Change{drop(two, at(0))}},
		{"[1]", api.ErrState, []diff.Change{put(one, two, at(0)), put(one, two, at(0))}},
		{`{"a":1}`, api.ErrState, []diff.Change{put(one, two, key("a")), put(read(t, `{"a":1}`), one)}},
		{"1", api.ErrArg, []diff.Change{drop(one)}},
		{"[1]", api.ErrArg, []diff.Change{drop(one, at(0))}},
		{`{"a":[1]}`, api.ErrArg, []diff.Change{drop(one, key("a"), at(0))}},
		{"[]", api.ErrArg, []diff.Change{none(at(0))}},
		{"[1]", api.ErrArg, []diff.Change{none(at(9))}},
		{"{}", api.ErrArg, []diff.Change{none(key("a"), at(0))}},
		// It leads through nothing.
		{"{}", api.ErrNone, []diff.Change{none(key("a"), key("b"))}},
		{"[]", api.ErrRange, []diff.Change{none(at(0), key("b"))}},
		{"{}", api.ErrNone, []diff.Change{add(one, key("a"), key("b"))}},
		{"{}", api.ErrNone, []diff.Change{add(one, key("a"), at(0))}},
		{"[]", api.ErrRange, []diff.Change{add(one, at(0), key("b"))}},
		{"[]", api.ErrRange, []diff.Change{add(one, at(1))}},
		{"[1,2]", api.ErrRange, []diff.Change{add(one, at(3))}},
		{"[1,2]", api.ErrRange, []diff.Change{add(one, at(2)), add(one, at(4))}},
		{"[1]", api.ErrRange, []diff.Change{add(one, at(1<<63-1))}},
		// The first change that can't be, whatever is wrong with others.
		{"1", api.ErrArg, []diff.Change{put(one, two), drop(two), add(two, key("a"))}},
	} {
		got, e := diff.Apply(read(t, x.a), x.l...)
		if e != x.want || got.Kind() != value.KindNull {
			t.Errorf("%d: Apply %s, %q: %s, %d", i, x.a, diff.Lines(x.l), text.Write(got), e)
		}
	}
}

func TestTurn(t *testing.T) {
	one, two := value.Int(1), value.Int(2)
	got := diff.Turn([]diff.Change{put(one, two, key("a")), add(one, key("b"), at(3)), drop(two), none(at(0)), {Way: steps(key("c")), A: one, B: two, New: true}})
	want := []diff.Change{
		{Way: steps(key("c")), A: two, B: one, Old: true},
		none(at(0)),
		add(two),
		drop(one, key("b"), at(3)),
		put(two, one, key("a")),
	}
	if diff.Lines(got) != diff.Lines(want) || len(got) != 5 || !value.Same(got[0].B, one) || got[0].New || got[1].Old || got[1].New {
		t.Errorf("Turn: %v", got)
	}
	if l := diff.Turn(nil); len(l) != 0 {
		t.Errorf("Turn: %v", l)
	}
}

func TestLines(t *testing.T) {
	one, v := value.Int(1), read(t, `{"a":["\"",?]}`)
	for _, x := range []struct {
		c    diff.Change
		want string
	}{
		{put(one, v, key("a")), "~ .\"a\" 1 {\"a\":[\"\\\"\",?]}\n"},
		{add(v, key("a"), at(2)), "+ .\"a\"[2] {\"a\":[\"\\\"\",?]}\n"},
		{drop(value.Unset(), key("\n")), "- .\"\\x0a\" null\n"},
		{put(one, one), "~  1 1\n"},
		{add(one), "+  1\n"},
		{drop(one), "-  1\n"},
		{none(), "~ \n"},
		{none(key("")), "~ .\"\"\n"},
		{diff.Change{Way: steps(at(0)), A: one, B: v, New: true}, "+ [0] {\"a\":[\"\\\"\",?]}\n"},
		{diff.Change{Way: steps(at(0)), A: one, B: v, Old: true}, "- [0] 1\n"},
		{diff.Change{Way: steps(at(0)), A: one, B: v}, "~ [0]\n"},
	} {
		if got := diff.Lines([]diff.Change{x.c}); got != x.want {
			t.Errorf("Lines: %q, not %q", got, x.want)
		}
		if got := diff.Lines([]diff.Change{x.c, none(), x.c}); got != x.want+"~ \n"+x.want {
			t.Errorf("Lines: %q", got)
		}
	}
	if got := diff.Lines(nil); got != "" {
		t.Errorf("Lines: %q", got)
	}
}

func TestKeys(t *testing.T) {
	one := value.Int(1)
	for i, x := range []struct {
		l    []diff.Change
		want []string
	}{
		{nil, nil},
		{[]diff.Change{none()}, nil},
		{[]diff.Change{add(one, at(0))}, nil},
		{[]diff.Change{add(one, at(0), key("a"))}, nil},
		{[]diff.Change{add(one, key("a"))}, []string{"a"}},
		{[]diff.Change{drop(one, key("b"), key("a")), put(one, one, key("a"), at(0)), none(key("c")), none(), none(key("b"))}, []string{"a", "b", "c"}},
		{[]diff.Change{none(key("aa")), none(key("a")), none(key("B"))}, []string{"B", "a", "aa"}},
		{[]diff.Change{none(key(""))}, []string{""}},
		{[]diff.Change{none(value.Step{At: -7}), none(value.Step{Key: "z", At: 3})}, []string{"", "z"}},
	} {
		got := diff.Keys(x.l)
		if strings.Join(got, "|") != strings.Join(x.want, "|") || len(got) != len(x.want) {
			t.Errorf("%d: Keys: %q", i, got)
		}
		for _, k := range []string{"", "a", "aa", "b", "B", "c", "z", "y"} {
			want := false
			for _, w := range x.want {
				want = want || w == k
			}
			if got := diff.Under(x.l, k); got != want {
				t.Errorf("%d: Under %q: %t", i, k, got)
			}
		}
	}
}

// TestMemory is of what is handed in, and handed out: none of it is shared.
func TestMemory(t *testing.T) {
	a, b := read(t, `{"a":{"x":1,"y":2},"b":[1]}`), read(t, `{"a":{"x":2,"y":3},"b":[2]}`)
	l := diff.Of(a, b)
	told := diff.Lines(l)
	for i := range l {
		room := append(l[i].Way, key("spoilt"))
		room[0] = key("spoilt")
	}
	again := diff.Of(a, b)
	if diff.Lines(again) != told {
		t.Errorf("Of: %q", diff.Lines(again))
	}
	for i := range again {
		room := again[i].Way[:cap(again[i].Way)]
		room[len(room)-1] = key("spoilt")
		for j := i + 1; j < len(again); j++ {
			if text.Path(again[j].Way...) != text.Path(diff.Of(a, b)[j].Way...) {
				t.Errorf("ways %d and %d share memory", i, j)
			}
		}
	}
	l = diff.Of(a, b)
	turned := diff.Turn(l)
	for i := range turned {
		turned[i].Way[0] = key("spoilt")
	}
	if diff.Lines(l) != told {
		t.Errorf("Turn has changed what was handed in: %q", diff.Lines(l))
	}
	before := text.Write(a)
	x, e := diff.Apply(a, l...)
	if e != api.OK || text.Write(a) != before || diff.Lines(l) != told || !value.Same(x, b) {
		t.Errorf("Apply: %s, %d", text.Write(x), e)
	}
	long := make([]diff.Change, 2, 8)
	long[0], long[1] = none(key("b")), none(key("a"))
	diff.Keys(long)
	if long[0].Way[0].Key != "b" || long[:3][2].Way != nil {
		t.Error("Keys has changed what was handed in")
	}
}
