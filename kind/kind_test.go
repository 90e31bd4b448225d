package kind_test

import (
	"math"
	"slices"
	"strings"
	"testing"

	"flange/api"
	"flange/kind"
	"flange/text"
	"flange/value"
)

const edge = 1 << 53

func point(re, im int) value.Value {
	p, e := value.Point(re, im)
	if e != api.OK {
		panic("no point")
	}
	return p
}

// tie is a Map of keys and values, one by one.
func tie(l ...any) value.Value {
	var keys []string
	var items []value.Value
	for i := 0; i < len(l); i += 2 {
		keys = append(keys, l[i].(string))
		items = append(items, l[i+1].(value.Value))
	}
	m, e := value.Map(keys, items)
	if e != api.OK {
		panic("no map")
	}
	return m
}

func key(k string) value.Step { return value.Step{Key: k, At: -1} }

// typeOf is a text's type, which must be there.
func typeOf(t *testing.T, s string) *kind.Type {
	t.Helper()
	k, at, e := kind.Parse(s)
	if k == nil || at != 0 || e != api.OK {
		t.Fatalf("Parse(%s): %d, %d", s, at, e)
	}
	return k
}

// read is a text's value, which must be there.
func read(t *testing.T, s string) value.Value {
	t.Helper()
	v, _, e := text.Read(s)
	if e != api.OK {
		t.Fatalf("Read(%s): %d", s, e)
	}
	return v
}

// seven is a type without others of each form, and one with others of each.
func seven() []string {
	return []string{"any", "bool", "int", "point", "text", "list(int)", "map(int)", "[int,text]", "{a:int,b?:text}", "[]", "{}"}
}

func TestNamed(t *testing.T) {
	for s, want := range map[string]bool{
		"": false, "a": true, "z": true, "az": true, "a0": true, "a9z": true, "zz9": true,
		"0": false, "9a": false, "A": false, "aB": false, "Ba": false, "a_b": false, "_": false, "a.b": false, "a b": false, " a": false, "a ": false,
		"`": false, "{": false, "a`": false, "a{": false, "a/": false, "a:": false, "a\x00": false, "\x00": false, "é": false, "aé": false, "a\xff": false,
		strings.Repeat("a", 19): true, strings.Repeat("a", 20): true, strings.Repeat("a", 21): false, "a" + strings.Repeat("1", 19): true, "a" + strings.Repeat("1", 20): false,
		strings.Repeat("a", 1<<20): false,
	} {
		if got := kind.Named(s); got != want {
			t.Errorf("Named(%.30q): %t", s, got)
		}
	}
}

func TestNamedEveryByte(t *testing.T) {
	for c := range 256 {
		letter := c >= 'a' && c <= 'z'
		s := string([]byte{byte(c)})
		if got := kind.Named(s); got != letter {
			t.Errorf("Named(%q): %t", s, got)
		}
		s = "a" + s
		if got := kind.Named(s); got != (letter || c >= '0' && c <= '9') {
			t.Errorf("Named(%q): %t", s, got)
		}
	}
}

// TestModels holds all that a type tells of itself against the models.
func TestModels(t *testing.T) {
	for _, m := range models() {
		k := typeOf(t, m.text())
		if got := k.Print(); got != m.text() {
			t.Errorf("Print of %s: %s", m.text(), got)
		}
		if got := k.Deep(); got != m.deep() {
			t.Errorf("Deep of %s: %d", m.text(), got)
		}
		if got := k.Names(); !slices.Equal(got, m.names) {
			t.Errorf("Names of %s: %q", m.text(), got)
		}
		if got := k.Zero(); !value.Same(got, m.zero()) {
			t.Errorf("Zero of %s: %s", m.text(), text.Write(got))
		}
		if !k.Takes(k.Zero()) {
			t.Errorf("%s doesn't take its zero", m.text())
		}
		wantParts(t, k, m)
	}
}

// wantParts looks for a type's parts.
func wantParts(t *testing.T, k *kind.Type, m model) {
	holds := map[string]int{"list": value.KindList, "tuple": value.KindList, "map": value.KindMap, "object": value.KindMap}[m.form]
	if got := k.Holds(); got != holds {
		t.Errorf("Holds of %s: %d", m.text(), got)
	}
	for _, n := range []int{math.MinInt, -2, -1, 0, 1, 2, 3, 4, 63, 64, 65, math.MaxInt} {
		wantMany, wantOK := 0, false
		part := -1
		switch m.form {
		case "list":
			wantMany, wantOK = -1, n >= 0
			if n >= 0 {
				part = 0
			}
		case "tuple":
			wantMany, wantOK = len(m.parts), n == len(m.parts)
			if n >= 0 && n < len(m.parts) {
				part = n
			}
		}
		if got, ok := k.Item(n); got != wantMany || ok != wantOK {
			t.Errorf("Item(%d) of %s: %d, %t", n, m.text(), got, ok)
		}
		got, ok := k.Place(n)
		wantPart(t, m, part, got, ok)
	}
	for _, n := range []string{"", "a", "ab", "b", "b?", "c", "c1", "a:", "A", "int"} {
		got, ok := k.Field(n)
		wantPart(t, m, m.place(n), got, ok)
		got, ok = k.Under(n)
		part := m.place(n)
		if m.form == "map" {
			part = 0
		}
		wantPart(t, m, part, got, ok)
	}
}

// wantPart looks whether that is a model's part; of a place below 0 that there is none.
func wantPart(t *testing.T, m model, place int, got *kind.Type, ok bool) {
	t.Helper()
	if place < 0 {
		if got != nil || ok {
			t.Errorf("a part of %s: %s, %t", m.text(), got.Print(), ok)
		}
		return
	}
	want := m.parts[place]
	if !ok || got.Print() != want.text() || got.Deep() != want.deep() {
		t.Errorf("a part of %s: %s, %t", m.text(), got.Print(), ok)
	}
}

// TestEvery holds Takes, Wrong and Missing against the models: each type with every fourth value, no two neighbours with the same ones.
func TestEvery(t *testing.T) {
	l := values()
	for i, m := range models() {
		k := typeOf(t, m.text())
		for j := i % 4; j < len(l); j += 4 {
			v := l[j]
			wrongs := m.wrongs(v)
			way, wrong := k.Wrong(v)
			if wrong != (len(wrongs) > 0) || wrong && !slices.Equal(way, wrongs[0]) || !wrong && len(way) > 0 {
				t.Fatalf("Wrong of %s, %s: %v, %t", m.text(), text.Write(v), way, wrong)
			}
			if got := k.Takes(v); got == wrong {
				t.Fatalf("Takes of %s, %s: %t", m.text(), text.Write(v), got)
			}
			if got := k.Missing(v); !slices.Equal(got, m.missing(v)) {
				t.Fatalf("Missing of %s, %s: %q", m.text(), text.Write(v), got)
			}
		}
	}
}

func TestWrong(t *testing.T) {
	for _, x := range []struct{ kind, value, way string }{
		{"{a:int,b?:list(text)}", `{"a":1}`, ""},
		{"{a:int,b?:list(text)}", `{"a":1,"b":["x",1]}`, `."b"[1]`},
		{"{a:int,b?:list(text)}", `{"a":1,"b":null}`, ""},
		{"{a:int,b?:list(text)}", `{"a":?,"b":?}`, ""},
		{"{a:int,b?:list(text)}", `?`, ""},
		{"{a:int,b:int,c:int}", `{}`, `."a"`},
		{"{a:int,b:int,c:int}", `{"b":1}`, `."a"`},
		{"{a:int,b:int,c:int}", `{"c":true}`, `."c"`},
		{"{a:int,b:int,c:int}", `{"b":1,"d":1}`, `."d"`},
		{"{a:int,b:int,c:int}", `{"a":1,"c":1,"d":1}`, `."d"`},
		{"{a:int,b:int,c:int}", `{"A":true,"b":true}`, `."A"`},
		{"{a:int,b:int,c:int}", `{"":1,"a":1,"b":1,"c":1}`, `.""`},
		{"{a:int,b:int,c:int}", `{"a":1,"b?":1}`, `."b?"`},
		{"{b:{c:int}}", `{"b":{}}`, `."b"."c"`},
		{"{b:{c:int}}", `{"b":{"c":1,"d":2}}`, `."b"."d"`},
		{"list({c:int})", `[{"c":1},{}]`, `[1]."c"`},
		{"map(list(int))", `{"":[1],"x":[1,2,"3"],"y":1}`, `."x"[2]`},
		{"map(int)", `{"":"x"}`, `.""`},
		{"list([int,int])", `[[1,2],[1],["x"]]`, `[1]`},
		{"list([int,int])", `[[1,2],["x",1],[1]]`, `[1][0]`},
		{"[list([int]),int]", `[[[1],[1],[true]],"x"]`, `[0][2][0]`},
		{"list(point)", `[(1,2),9007199254740992,-9007199254740992,9007199254740993]`, `[3]`},
		{"list(point)", `[(1,2),-9007199254740993]`, `[1]`},
		{"list(any)", `[1,"x",[],{},null,?,(1,2),true]`, ""},
		{"[list(int),any]", `[[1,2,3],{"a":[true]}]`, ""},
	} {
		way, wrong := typeOf(t, x.kind).Wrong(read(t, x.value))
		if got := text.Path(way...); got != x.way || wrong != (x.way != "") {
			t.Errorf("Wrong of %s, %s: %s, %t", x.kind, x.value, got, wrong)
		}
	}
}

// TestWrongItself is of values that are wrong as a whole: there are no steps to them.
func TestWrongItself(t *testing.T) {
	for _, x := range []struct{ kind, values string }{
		{"bool", `[0,"true",(0,0),[],{},[true],{"a":true}]`},
		{"int", `[true,"1",(1,0),[],{},[1],{"a":1}]`},
		{"point", `[true,"1",[1,2],{},9007199254740993,-9007199254740993,9223372036854775807,-9223372036854775808]`},
		{"text", `[true,1,(1,0),[],{},["x"]]`},
		{"list(any)", `[true,1,(1,0),"x",{},{"a":1}]`},
		{"map(any)", `[true,1,(1,0),"x",[],[1]]`},
		{"[]", `[true,1,(1,0),"x",{},[null]]`},
		{"[int,text]", `[true,1,(1,0),"x",{},[],[1],["x"],[1,"x",1],[?],[null,null,null]]`},
		{"{}", `[true,1,(1,0),"x",[],[1]]`},
		{"{a?:int}", `[true,1,(1,0),"x",[],[1]]`},
	} {
		for _, v := range read(t, x.values).Items() {
			if way, wrong := typeOf(t, x.kind).Wrong(v); len(way) != 0 || !wrong {
				t.Errorf("Wrong of %s, %s: %v, %t", x.kind, text.Write(v), way, wrong)
			}
		}
	}
}

func TestSame(t *testing.T) {
	l := models()
	for i, a := range l {
		if !kind.Same(typeOf(t, a.text()), typeOf(t, a.text())) {
			t.Errorf("%s isn't the same as itself", a.text())
		}
		if kind.Same(typeOf(t, a.text()), nil) || kind.Same(nil, typeOf(t, a.text())) {
			t.Errorf("%s is the same as nil", a.text())
		}
		b := l[(i+1)%len(l)]
		if got := kind.Same(typeOf(t, a.text()), typeOf(t, b.text())); got != (a.text() == b.text()) {
			t.Errorf("Same of %s, %s: %t", a.text(), b.text(), got)
		}
	}
	if !kind.Same(nil, nil) {
		t.Error("nil isn't the same as nil")
	}
	for _, x := range [][2]string{
		{"list(int)", "map(int)"}, {"list(int)", "[int]"}, {"[]", "{}"}, {"[int]", "[int,int]"}, {"[int,text]", "[text,int]"},
		{"{a:int}", "{a?:int}"}, {"{a:int}", "{b:int}"}, {"{a:int}", "{a:text}"}, {"{a:int}", "{a:int,b?:int}"}, {"{a:int}", "map(int)"},
		{"list(list(int))", "list(list(any))"}, {"{a:{b:int}}", "{a:{b?:int}}"}, {"any", "bool"},
	} {
		a, b := typeOf(t, x[0]), typeOf(t, x[1])
		if kind.Same(a, b) || kind.Same(b, a) {
			t.Errorf("%s and %s are the same", x[0], x[1])
		}
	}
	whole := typeOf(t, "{a:list(int),b:list(int)}")
	a, _ := whole.Field("a")
	b, _ := whole.Field("b")
	if !kind.Same(a, b) || !kind.Same(a, typeOf(t, "list(int)")) {
		t.Error("the same parts aren't the same")
	}
}

func TestNil(t *testing.T) {
	var k *kind.Type
	if k.Print() != "" || k.Deep() != 0 || k.Holds() != value.KindNull || len(k.Names()) != 0 {
		t.Error("nil tells something")
	}
	if x, ok := k.Field("a"); x != nil || ok {
		t.Error("nil has a field")
	}
	if x, ok := k.Under("a"); x != nil || ok {
		t.Error("nil has a type under a key")
	}
	for _, n := range []int{-1, 0, 1} {
		if x, ok := k.Place(n); x != nil || ok {
			t.Error("nil has a place")
		}
		if x, ok := k.Item(n); x != 0 || ok {
			t.Error("nil has items")
		}
	}
	if k.Zero().Kind() != value.KindNull {
		t.Error("nil has a zero")
	}
	for _, v := range values() {
		if way, wrong := k.Wrong(v); len(way) != 0 || !wrong || k.Takes(v) || len(k.Missing(v)) != 0 {
			t.Fatalf("nil takes, or misses, %s", text.Write(v))
		}
	}
}

func TestMemory(t *testing.T) {
	k := typeOf(t, "{a:int,b?:[text,{c:int}]}")
	names := k.Names()
	names[0] = "x"
	missing := k.Missing(value.Unset())
	missing[0] = "x"
	way, _ := k.Wrong(tie("a", value.Int(1), "b", value.List(value.Text(""), tie())))
	way[0] = key("x")
	way = append(way[:1], way[1:]...)
	// Another type, laid where a part was handed out, isn't laid into the whole.
	for _, part := range []func() (*kind.Type, bool){
		func() (*kind.Type, bool) { return k.Field("b") },
		func() (*kind.Type, bool) { return k.Under("a") },
		func() (*kind.Type, bool) { b, _ := k.Field("b"); return b.Place(1) },
	} {
		p, _ := part()
		*p = *typeOf(t, "bool")
	}
	if got := k.Print(); got != "{a:int,b?:[text,{c:int}]}" {
		t.Errorf("the type has changed: %s", got)
	}
	if got := k.Names(); !slices.Equal(got, []string{"a", "b"}) {
		t.Errorf("the names have changed: %q", got)
	}
	if got := k.Missing(value.Unset()); !slices.Equal(got, []string{"a"}) {
		t.Errorf("what is missing has changed: %q", got)
	}
	way, _ = k.Wrong(tie("a", value.Int(1), "b", value.List(value.Text(""), tie())))
	if text.Path(way...) != `."b"[1]."c"` {
		t.Errorf("the way has changed: %s", text.Path(way...))
	}
	if got := text.Write(k.Zero()); got != `{"a":0}` {
		t.Errorf("the zero has changed: %s", got)
	}
}

// TestShared is of values that stand in others in so many places that nobody could go through all of them.
func TestShared(t *testing.T) {
	fill := func(v value.Value, deep int) value.Value {
		for range deep {
			l := make([]value.Value, 64)
			for i := range l {
				l[i] = v
			}
			v = value.List(l...)
		}
		return v
	}
	good := value.List(value.Int(1), value.Text("x"))
	k := typeOf(t, within("list(", "[int,text]", ")", 6))
	if way, wrong := k.Wrong(fill(good, 6)); wrong {
		t.Errorf("Wrong: %s", text.Path(way...))
	}
	// The last one of all is wrong.
	bad := value.List(value.Int(1), value.Int(2))
	for i := range 6 {
		l := fill(good, i+1).Items()
		l[63] = bad
		bad = value.List(l...)
	}
	way, wrong := k.Wrong(bad)
	if want := strings.Repeat("[63]", 6) + "[1]"; !wrong || text.Path(way...) != want {
		t.Errorf("Wrong: %s, %t", text.Path(way...), wrong)
	}
	// What one type has taken another one needn't.
	two := typeOf(t, "["+within("list(", "int", ")", 6)+","+within("list(", "text", ")", 6)+"]")
	v := fill(value.Int(1), 6)
	way, wrong = two.Wrong(value.List(v, v))
	if want := "[1]" + strings.Repeat("[0]", 6); !wrong || text.Path(way...) != want {
		t.Errorf("Wrong: %s, %t", text.Path(way...), wrong)
	}
}

// TestGreat is of a value that is great, and shares nothing.
func TestGreat(t *testing.T) {
	rows := make([]value.Value, 5000)
	for i := range rows {
		l := make([]value.Value, 1000)
		for j := range l {
			l[j] = value.Int((i + j) % 200)
		}
		rows[i] = value.List(l...)
	}
	k := typeOf(t, "list(list(int))")
	if !k.Takes(value.List(rows...)) {
		t.Error("a great value isn't taken")
	}
	l := rows[4999].Items()
	l[999] = value.Of(true)
	rows[4999] = value.List(l...)
	if way, wrong := k.Wrong(value.List(rows...)); !wrong || text.Path(way...) != "[4999][999]" {
		t.Errorf("Wrong: %s, %t", text.Path(way...), wrong)
	}
}

// TestRows is of very many values, all of one size, of which no two are the same.
func TestRows(t *testing.T) {
	part := value.List(make([]value.Value, 300)...)
	rows := make([]value.Value, 200000)
	for i := range rows {
		rows[i] = value.List(part, value.Int(i))
	}
	k := typeOf(t, "list([list(int),int])")
	if way, wrong := k.Wrong(value.List(rows...)); wrong {
		t.Errorf("Wrong: %s", text.Path(way...))
	}
	rows[199999] = value.List(part, value.Text("x"))
	if way, wrong := k.Wrong(value.List(rows...)); !wrong || text.Path(way...) != "[199999][1]" {
		t.Errorf("Wrong: %s, %t", text.Path(way...), wrong)
	}
}

// TestVeryDeep is of values that are deeper than any type.
func TestVeryDeep(t *testing.T) {
	v := value.Unset()
	for range 1 << 20 {
		v = value.List(v)
	}
	for s, want := range map[string]bool{"any": true, "list(any)": true, "list(list(any))": true, "list(list(int))": false, "map(any)": false, "int": false} {
		if got := typeOf(t, s).Takes(v); got != want {
			t.Errorf("%s: %t", s, got)
		}
	}
}
