package coerce_test

import (
	"strings"
	"testing"

	"flange/api"
	"flange/coerce"
	"flange/kind"
	"flange/schema"
	"flange/text"
	"flange/value"
)

// typeOf is a text's type, which must be there.
func typeOf(t *testing.T, s string) *kind.Type {
	t.Helper()
	k, at, e := kind.Parse(s)
	if e != api.OK {
		t.Fatalf("type %s: %d, %d", s, at, e)
	}
	return k
}

// read is a text's value, which must be there.
func read(t *testing.T, s string) value.Value {
	t.Helper()
	v, at, e := text.Read(s)
	if e != api.OK {
		t.Fatalf("value %s: %d, %d", s, at, e)
	}
	return v
}

func TestBring(t *testing.T) {
	for _, x := range []struct{ kind, v, want string }{
		{"list(int)", `["1",2]`, "[1,2]"},
		{"any", "null", "null"}, {"any", "?", "?"}, {"any", `"1"`, `"1"`}, {"any", "1", "1"}, {"any", `{"a":["true"]}`, `{"a":["true"]}`},
		{"bool", "null", "null"}, {"int", "null", "null"}, {"point", "null", "null"}, {"text", "null", "null"}, {"list(int)", "null", "null"}, {"[int]", "null", "null"}, {"map(int)", "null", "null"}, {"{a:int}", "null", "null"},
		{"bool", "?", "?"}, {"int", "?", "?"}, {"point", "?", "?"}, {"text", "?", "?"}, {"list(int)", "?", "?"}, {"[int]", "?", "?"}, {"map(int)", "?", "?"}, {"{a:int}", "?", "?"},
		{"bool", "true", "true"}, {"bool", "false", "false"}, {"bool", `"true"`, "true"}, {"bool", `"false"`, "false"},
		{"int", "7", "7"}, {"int", `"0"`, "0"}, {"int", `"-1"`, "-1"}, {"int", `"10"`, "10"},
		{"int", `"9223372036854775807"`, "9223372036854775807"}, {"int", `"-9223372036854775808"`, "-9223372036854775808"},
		{"point", "(1,-2)", "(1,-2)"}, {"point", "0", "(0,0)"}, {"point", "-5", "(-5,0)"},
		{"point", "9007199254740992", "(9007199254740992,0)"}, {"point", "-9007199254740992", "(-9007199254740992,0)"},
		{"text", `"x"`, `"x"`}, {"text", `""`, `""`}, {"text", `"1"`, `"1"`}, {"text", "0", `"0"`}, {"text", "-12", `"-12"`}, {"text", "true", `"true"`}, {"text", "false", `"false"`},
		{"text", "-9223372036854775808", `"-9223372036854775808"`},
		{"list(any)", `["1",1]`, `["1",1]`}, {"list(text)", `["1",1,true,null,?]`, `["1","1","true",null,?]`}, {"list(int)", "[]", "[]"},
		{"list(list(point))", "[[1],[],[(1,1),null]]", "[[(1,0)],[],[(1,1),null]]"},
		{"[]", "[]", "[]"}, {"[int,text]", `["1",1]`, `[1,"1"]`}, {"[int,text,any]", `[?,null,"1"]`, `[?,null,"1"]`},
		{"map(int)", "{}", "{}"}, {"map(int)", `{"":"1","B":2,"a":null}`, `{"":1,"B":2,"a":null}`}, {"map(map(bool))", `{"x":{"y":"true"}}`, `{"x":{"y":true}}`},
		{"{}", "{}", "{}"}, {"{a:int,b?:text}", `{"a":"1"}`, `{"a":1}`}, {"{a:int,b?:text}", `{"a":"1","b":1}`, `{"a":1,"b":"1"}`}, {"{a?:int}", "{}", "{}"},
		{"{a:{b:[point]}}", `{"a":{"b":[3]}}`, `{"a":{"b":[(3,0)]}}`},
	} {
		got, way, e := coerce.Bring(typeOf(t, x.kind), read(t, x.v))
		if e != api.OK || len(way) != 0 || text.Write(got) != x.want {
			t.Errorf("Bring %s to %s: %s, %s, %d", x.v, x.kind, text.Write(got), text.Path(way...), e)
		}
	}
}

func TestBringWrong(t *testing.T) {
	for _, x := range []struct{ kind, v, way string }{
		{"bool", "1", ""}, {"bool", `"True"`, ""}, {"bool", `"tru"`, ""}, {"bool", `"true "`, ""}, {"bool", `""`, ""}, {"bool", `"1"`, ""}, {"bool", `"null"`, ""}, {"bool", `"?"`, ""}, {"bool", "(1,0)", ""}, {"bool", "[true]", ""},
		{"int", "true", ""}, {"int", "(1,0)", ""}, {"int", `""`, ""}, {"int", `"01"`, ""}, {"int", `"-0"`, ""}, {"int", `"+1"`, ""}, {"int", `" 1"`, ""}, {"int", `"1 "`, ""}, {"int", `"1\x0a"`, ""}, {"int", `"-"`, ""}, {"int", `"1.0"`, ""}, {"int", `"1_0"`, ""}, {"int", `"x"`, ""},
		{"int", `"null"`, ""}, {"int", `"?"`, ""}, {"int", `"true"`, ""}, {"int", `"(1,0)"`, ""}, {"int", `"[1]"`, ""}, {"int", `"\"1\""`, ""}, {"int", "[1]", ""}, {"int", `{"a":1}`, ""},
		{"int", `"9223372036854775808"`, ""}, {"int", `"-9223372036854775809"`, ""}, {"int", `"10000000000000000000000"`, ""}, {"int", `"0000000000000000000001"`, ""},
		{"point", "true", ""}, {"point", `"1"`, ""}, {"point", `"(1,0)"`, ""}, {"point", "9007199254740993", ""}, {"point", "-9007199254740993", ""}, {"point", "[1,0]", ""},
		{"text", "(1,0)", ""}, {"text", "[]", ""}, {"text", "{}", ""}, {"text", `["x"]`, ""},
		{"list(int)", "1", ""}, {"list(int)", `"1"`, ""}, {"list(int)", `"[1]"`, ""}, {"list(int)", "{}", ""}, {"list(int)", `{"a":1}`, ""},
		{"list(int)", `[1,"2",true,"x"]`, "[2]"}, {"list(list(int))", `[["1"],[1,"x"],1]`, "[1][1]"}, {"list(list(int))", `[["1"],2,["x"]]`, "[1]"},
		{"[int]", "[]", ""}, {"[int]", "[1,2]", ""}, {"[]", "[1]", ""}, {"[int]", `["x",2]`, ""}, {"[int,int]", `["x"]`, ""}, {"[int,bool]", `["1","x"]`, "[1]"}, {"[int,bool]", `["x","x"]`, "[0]"}, {"[int]", `{"a":1}`, ""}, {"[[int],int]", `[[],"x"]`, "[0]"},
		{"map(int)", "[]", ""}, {"map(int)", "[1]", ""}, {"map(int)", `{"":1,"a":"x","b":true}`, `."a"`}, {"map(int)", `{"":"x"}`, `.""`}, {"map(map(int))", `{"x":{"y":"1","z":"z"}}`, `."x"."z"`},
		{"{a:int}", "[]", ""}, {"{}", "[]", ""}, {"{}", `{"a":1}`, `."a"`}, {"{a:int}", "{}", `."a"`}, {"{a:int,b:int}", "{}", `."a"`}, {"{a?:int,b:int}", "{}", `."b"`},
		{"{a:int}", `{"a":"x"}`, `."a"`}, {"{a:int}", `{"a":"1","b":null}`, `."b"`}, {"{a?:int}", `{"":1}`, `.""`},
		// Those that it has come first, rising, then those that are missing.
		{"{a:int,b:int}", `{"b":1}`, `."a"`}, {"{a:int,b:int}", `{"b":"x"}`, `."b"`}, {"{a:int}", `{"z":?}`, `."z"`}, {"{a:int,b:int,d:int}", `{"b":"x","c":1}`, `."b"`}, {"{a:int,c:int}", `{"b":1,"c":"x"}`, `."b"`},
		{"{a:{b:int}}", `{"a":{}}`, `."a"."b"`}, {"list({a:[int]})", `[{"a":["1"]},{"a":[true]}]`, `[1]."a"[0]`},
	} {
		got, way, e := coerce.Bring(typeOf(t, x.kind), read(t, x.v))
		if e != api.ErrType || text.Path(way...) != x.way || got.Kind() != value.KindNull {
			t.Errorf("Bring %s to %s: %s, %s, %d", x.v, x.kind, text.Write(got), text.Path(way...), e)
		}
		for _, s := range way {
			if s.Key != "" && s.At != -1 {
				t.Errorf("Bring %s to %s: a step of %d", x.v, x.kind, s.At)
			}
		}
	}
	long := value.Text(strings.Repeat("1", api.MaxText+1))
	if _, way, e := coerce.Bring(typeOf(t, "list(int)"), value.List(value.Int(1), long)); e != api.ErrType || text.Path(way...) != "[1]" {
		t.Errorf("Bring of a long text: %s, %d", text.Path(way...), e)
	}
	for _, v := range []string{"null", "?", "1", "[]", `{"a":1}`} {
		if got, way, e := coerce.Bring(nil, read(t, v)); e != api.ErrArg || len(way) != 0 || got.Kind() != value.KindNull {
			t.Errorf("Bring %s to nil: %s, %s, %d", v, text.Write(got), text.Path(way...), e)
		}
	}
}

func parse(t *testing.T, s string) *schema.Schema {
	t.Helper()
	x, at, e := schema.Parse(s)
	if e != api.OK {
		t.Fatalf("schema %q: %d, %d", s, at, e)
	}
	return x
}

func TestAttrs(t *testing.T) {
	s := parse(t, "version 1\nattr a list(int) must\nattr b text own\nattr c point\nattr d {x:bool,y?:any} hide new\n")
	for _, x := range []struct {
		v, want, key string
		e            api.Errno
	}{
		{"{}", "{}", "", api.OK},
		{`{"a":["1",2],"b":true,"c":5,"d":{"x":"true","y":"1"}}`, `{"a":[1,2],"b":"true","c":(5,0),"d":{"x":true,"y":"1"}}`, "", api.OK},
		{`{"a":null,"b":?}`, `{"a":null,"b":?}`, "", api.OK},
		{`{"b":"x","d":{"x":null}}`, `{"b":"x","d":{"x":null}}`, "", api.OK},
		{"null", "null", "", api.ErrType},
		{"?", "null", "", api.ErrType},
		{"1", "null", "", api.ErrType},
		{`"a"`, "null", "", api.ErrType},
		{"[]", "null", "", api.ErrType},
		{`{"":1}`, "null", "", api.ErrName},
		{`{"A":1,"a":[]}`, "null", "A", api.ErrName},
		{`{"a":[],"aa":null}`, "null", "aa", api.ErrName},
		{`{"a":[],"z":?}`, "null", "z", api.ErrName},
		{`{"a":["x"]}`, "null", "a", api.ErrType},
		{`{"a":[],"b":[]}`, "null", "b", api.ErrType},
		{`{"c":"1"}`, "null", "c", api.ErrType},
		{`{"d":{}}`, "null", "d", api.ErrType},
		{`{"d":{"x":true,"z":1}}`, "null", "d", api.ErrType},
		// The first key, rising, whatever is wrong with it.
		{`{"a":1,"aa":1}`, "null", "a", api.ErrType},
		{`{"aa":1,"b":[]}`, "null", "aa", api.ErrName},
		{`{"b":(1,1),"c":true,"z":1}`, "null", "b", api.ErrType},
	} {
		got, key, e := coerce.Attrs(s, read(t, x.v))
		if text.Write(got) != x.want || key != x.key || e != x.e {
			t.Errorf("Attrs %s: %s, %q, %d", x.v, text.Write(got), key, e)
		}
		if got, key, e := coerce.Attrs(nil, read(t, x.v)); got.Kind() != value.KindNull || key != "" || e != api.ErrState {
			t.Errorf("Attrs of nil, %s: %s, %q, %d", x.v, text.Write(got), key, e)
		}
	}
	none := parse(t, "version 0\n")
	if got, key, e := coerce.Attrs(none, read(t, "{}")); text.Write(got) != "{}" || key != "" || e != api.OK {
		t.Errorf("Attrs: %s, %q, %d", text.Write(got), key, e)
	}
}

func TestMerge(t *testing.T) {
	for _, x := range []struct{ a, b, want string }{
		{`{"a":{"x":1},"b":2}`, `{"a":{"y":3},"b":null}`, `{"a":{"x":1,"y":3},"b":2}`},
		{"{}", "{}", "{}"},
		{`{"a":1}`, "{}", `{"a":1}`},
		{"{}", `{"a":1}`, `{"a":1}`},
		{`{"b":1,"d":2}`, `{"a":3,"c":4,"e":5}`, `{"a":3,"b":1,"c":4,"d":2,"e":5}`},
		{`{"a":1,"b":2}`, `{"a":3}`, `{"a":3,"b":2}`},
		{`{"a":1}`, `{"a":?}`, `{"a":?}`},
		{`{"a":?}`, `{"a":null}`, `{"a":?}`},
		{`{"a":null}`, `{"a":null}`, `{"a":null}`},
		{`{"a":null}`, `{"b":null}`, `{"a":null,"b":null}`},
		{`{"a":null}`, `{"a":1}`, `{"a":1}`},
		{`{"a":{"b":1}}`, `{"a":null}`, `{"a":{"b":1}}`},
		{`{"a":{"b":1}}`, `{"a":[]}`, `{"a":[]}`},
		{`{"a":[{"b":1}]}`, `{"a":[{"c":2}]}`, `{"a":[{"c":2}]}`},
		{`{"a":{"b":{"c":1,"d":2},"e":3}}`, `{"a":{"b":{"c":null,"d":4,"f":5}}}`, `{"a":{"b":{"c":1,"d":4,"f":5},"e":3}}`},
		{`{"a":{"x":1},"b":{"x":1}}`, `{"a":{"y":2},"b":{"z":3}}`, `{"a":{"x":1,"y":2},"b":{"x":1,"z":3}}`},
		{"null", "null", "null"}, {"null", "1", "1"}, {"1", "null", "1"}, {"1", "2", "2"}, {"1", "?", "?"}, {"?", "null", "?"}, {"?", "1", "1"},
		{"{}", "null", "{}"}, {"null", "{}", "{}"}, {`{"a":1}`, "[]", "[]"}, {"[]", `{"a":1}`, `{"a":1}`}, {`{"a":1}`, "?", "?"},
		{"[1,2]", "[3]", "[3]"}, {"[1]", "null", "[1]"}, {"[1]", "[null]", "[null]"}, {"true", `"x"`, `"x"`}, {"(1,2)", "(3,4)", "(3,4)"},
	} {
		if got := text.Write(coerce.Merge(read(t, x.a), read(t, x.b))); got != x.want {
			t.Errorf("Merge %s, %s: %s", x.a, x.b, got)
		}
	}
}

func TestMemory(t *testing.T) {
	v := read(t, `{"a":["1",2],"b":true}`)
	k := typeOf(t, "{a:list(int),b:text}")
	x, _, _ := coerce.Bring(k, v)
	x.Items()[0] = value.Unset()
	_, way, _ := coerce.Bring(k, read(t, `{"a":["x"],"b":1}`))
	way[0] = value.Step{}
	if got := text.Write(v); got != `{"a":["1",2],"b":true}` {
		t.Errorf("what is handed in has changed: %s", got)
	}
	if got := text.Write(x); got != `{"a":[1,2],"b":"true"}` {
		t.Errorf("what was brought has changed: %s", got)
	}
	if _, way, _ := coerce.Bring(k, read(t, `{"a":["x"],"b":1}`)); text.Path(way...) != `."a"[0]` {
		t.Errorf("the way has changed: %s", text.Path(way...))
	}
}
