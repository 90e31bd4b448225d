package schema_test

import (
	"reflect"
	"strings"
	"testing"

	"flange/api"
	"flange/kind"
	"flange/schema"
	"flange/text"
	"flange/value"
)

// typeOf is a text's type, which must be there.
func typeOf(t *testing.T, s string) *kind.Type {
	t.Helper()
	k, at, e := kind.Parse(s)
	if e != api.OK {
		t.Fatalf("type %s: %d, %d", s, at, e)
	}
	return k
}

// parse is a text's schema, which must be there.
func parse(t *testing.T, s string) *schema.Schema {
	t.Helper()
	x, at, e := schema.Parse(s)
	if x == nil || at != 0 || e != api.OK {
		t.Fatalf("Parse %q: %v, %d, %d", s, x, at, e)
	}
	return x
}

// read is a text's value, which must be there.
func read(t *testing.T, s string) value.Value {
	t.Helper()
	v, at, e := text.Read(s)
	if e != api.OK {
		t.Fatalf("value %s: %d, %d", s, at, e)
	}
	return v
}

// names is so many names, rising.
func names(n int) []string {
	var l []string
	for i := range n {
		l = append(l, "a"+string(rune('a'+i)))
	}
	return l
}

func attrs(k *kind.Type, names ...string) []schema.Attr {
	var l []schema.Attr
	for _, n := range names {
		l = append(l, schema.Attr{Name: n, Type: k})
	}
	return l
}

func TestMake(t *testing.T) {
	k := typeOf(t, "list(int)")
	long := strings.Repeat("a", api.MaxName)
	for _, x := range []struct {
		version int
		attrs   []schema.Attr
		want    string
	}{
		{0, nil, "version 0\n"},
		{1000, nil, "version 1000\n"},
		{7, attrs(k, "a"), "version 7\nattr a list(int)\n"},
		{7, attrs(k, "a", "a0", "aa", "b"), "version 7\nattr a list(int)\nattr a0 list(int)\nattr aa list(int)\nattr b list(int)\n"},
		{7, attrs(k, long), "version 7\nattr " + long + " list(int)\n"},
		{7, attrs(k, names(16)...), "version 7\nattr " + strings.Join(names(16), " list(int)\nattr ") + " list(int)\n"},
		{1, []schema.Attr{{Name: "a", Type: k, Must: true, Hide: true, New: true}, {Name: "b", Type: k, Own: true, Hide: true, New: true}}, "version 1\nattr a list(int) must hide new\nattr b list(int) own hide new\n"},
	} {
		s, e := schema.Make(x.version, x.attrs...)
		if e != api.OK || s.Print() != x.want {
			t.Errorf("Make %d, %v: %q, %d", x.version, x.attrs, s.Print(), e)
		}
		if s.Version() != x.version {
			t.Errorf("Version of %q: %d", x.want, s.Version())
		}
	}
}

func TestMakeWrong(t *testing.T) {
	k := typeOf(t, "int")
	both := schema.Attr{Name: "b", Type: k, Must: true, Own: true}
	none := schema.Attr{Name: "b", Must: true, Own: true}
	for i, x := range []struct {
		version int
		attrs   []schema.Attr
		want    api.Errno
	}{
		{-1, nil, api.ErrRange},
		{1001, nil, api.ErrRange},
		{-1 << 63, nil, api.ErrRange},
		{1<<63 - 1, nil, api.ErrRange},
		{1001, attrs(k, names(17)...), api.ErrRange},
		{1001, attrs(nil, ""), api.ErrRange},
		{1, attrs(k, names(17)...), api.ErrLong},
		{1, attrs(nil, make([]string, 17)...), api.ErrLong},
		{1, attrs(k, ""), api.ErrName},
		{1, attrs(k, "A"), api.ErrName},
		{1, attrs(k, "0"), api.ErrName},
		{1, attrs(k, "a_b"), api.ErrName},
		{1, attrs(k, "a b"), api.ErrName},
		{1, attrs(k, "a\n"), api.ErrName},
		{1, attrs(k, "\u00e4"), api.ErrName},
		{1, attrs(k, strings.Repeat("a", api.MaxName+1)), api.ErrName},
		{1, attrs(nil, "A"), api.ErrName},
		{1, []schema.Attr{{Name: "A", Must: true, Own: true}}, api.ErrName},
		{1, attrs(k, "b", ""), api.ErrName},
		{1, attrs(k, "b", "A"), api.ErrName},
		{1, attrs(k, "a", "a"), api.ErrTwice},
		{1, []schema.Attr{{Name: "b", Type: k}, none}, api.ErrTwice},
		{1, attrs(k, "b", "a"), api.ErrForm},
		{1, attrs(k, "aa", "a0"), api.ErrForm},
		{1, attrs(k, "a", "b", "a"), api.ErrForm},
		{1, []schema.Attr{{Name: "c", Type: k}, none}, api.ErrForm},
		{1, attrs(nil, "a"), api.ErrType},
		{1, []schema.Attr{none}, api.ErrType},
		{1, []schema.Attr{{Name: "a", Type: k}, none}, api.ErrType},
		{1, []schema.Attr{both}, api.ErrArg},
		{1, []schema.Attr{{Name: "a", Type: k}, both}, api.ErrArg},
		// One by one: the first attribute that is wrong is told, whatever is wrong with others.
		{1, append([]schema.Attr{both}, attrs(nil, "")...), api.ErrArg},
		{1, append([]schema.Attr{both}, attrs(k, "b")...), api.ErrArg},
		{1, append(attrs(nil, "b"), attrs(k, "b")...), api.ErrType},
		{1, append(attrs(k, "b", "b"), attrs(k, "")...), api.ErrTwice},
	} {
		if s, e := schema.Make(x.version, x.attrs...); s != nil || e != x.want {
			t.Errorf("%d: Make %d, %v: %v, %d", i, x.version, x.attrs, s, e)
		}
	}
}

func TestAttrs(t *testing.T) {
	s := parse(t, "version 3\nattr id text own\nattr key list(text) must hide new\nattr size {a?:int}\n")
	l := s.Attrs()
	if len(l) != 3 {
		t.Fatalf("Attrs: %v", l)
	}
	for i, want := range []schema.Attr{
		{Name: "id", Type: typeOf(t, "text"), Own: true},
		{Name: "key", Type: typeOf(t, "list(text)"), Must: true, Hide: true, New: true},
		{Name: "size", Type: typeOf(t, "{a?:int}")},
	} {
		a, ok := s.Find(want.Name)
		if !ok || !reflect.DeepEqual(a, want) || !reflect.DeepEqual(l[i], want) {
			t.Errorf("%s: %v, %t; %v", want.Name, a, ok, l[i])
		}
	}
	for _, name := range []string{"", "i", "idd", "Id", "zz", "version", "attr"} {
		if a, ok := s.Find(name); ok || a != (schema.Attr{}) {
			t.Errorf("Find %q: %v, %t", name, a, ok)
		}
	}
	if l := parse(t, "version 3\n").Attrs(); len(l) != 0 {
		t.Errorf("Attrs: %v", l)
	}
}

func TestSame(t *testing.T) {
	l := []string{
		"version 1\n", "version 2\n", "version 1\nattr a int\n", "version 2\nattr a int\n", "version 1\nattr b int\n", "version 1\nattr a text\n",
		"version 1\nattr a int must\n", "version 1\nattr a int own\n", "version 1\nattr a int hide\n", "version 1\nattr a int new\n", "version 1\nattr a int own hide new\n",
		"version 1\nattr a int\nattr b int\n", "version 1\nattr a {a:int}\n", "version 1\nattr a {a?:int}\n",
	}
	for i, a := range l {
		if schema.Same(parse(t, a), nil) || schema.Same(nil, parse(t, a)) {
			t.Errorf("%q is the same as nil", a)
		}
		for j, b := range l {
			if got := schema.Same(parse(t, a), parse(t, b)); got != (i == j) {
				t.Errorf("Same of %q, %q: %t", a, b, got)
			}
		}
	}
	made, _ := schema.Make(1, attrs(typeOf(t, "int"), "a")...)
	if !schema.Same(made, parse(t, "version 1\nattr a int\n")) {
		t.Error("what is made isn't the same as what is read")
	}
	if !schema.Same(nil, nil) {
		t.Error("nil isn't the same as nil")
	}
}

func TestNil(t *testing.T) {
	var s *schema.Schema
	if s.Print() != "" || s.Version() != 0 || len(s.Attrs()) != 0 {
		t.Error("nil tells something")
	}
	if a, ok := s.Find("a"); ok || a != (schema.Attr{}) {
		t.Errorf("Find: %v, %t", a, ok)
	}
	for _, v := range []string{"null", "1", "{}", `{"a":1}`} {
		x := read(t, v)
		if name, e := s.Fits(x); name != "" || e != api.ErrState {
			t.Errorf("Fits %s: %q, %d", v, name, e)
		}
		if name, e := s.Holds(x); name != "" || e != api.ErrState {
			t.Errorf("Holds %s: %q, %d", v, name, e)
		}
		if f, e := s.Fill(x); f.Kind() != value.KindNull || e != api.ErrState {
			t.Errorf("Fill %s: %s, %d", v, text.Write(f), e)
		}
	}
}

func TestMemory(t *testing.T) {
	const want = "version 1\nattr a int must\nattr b text\n"
	l := make([]schema.Attr, 0, 4)
	l = append(l, schema.Attr{Name: "a", Type: typeOf(t, "int"), Must: true}, schema.Attr{Name: "b", Type: typeOf(t, "text")})
	s, _ := schema.Make(1, l...)
	if spare := l[:3]; spare[2] != (schema.Attr{}) || l[0].Name != "a" || l[1].Name != "b" {
		t.Error("what is handed in has changed")
	}
	// Another name, or another type, laid where one was handed in or out, isn't laid into the schema.
	change := func(a *schema.Attr) {
		*a.Type = *typeOf(t, "bool")
		*a = schema.Attr{Name: "z", Own: true}
	}
	change(&l[0])
	out := s.Attrs()
	change(&out[1])
	found, _ := s.Find("b")
	change(&found)
	if s.Print() != want {
		t.Errorf("the schema has changed: %q", s.Print())
	}
	if name, e := s.Fits(read(t, `{"a":1,"b":"x"}`)); e != api.OK {
		t.Errorf("Fits: %s, %d", name, e)
	}
	if a, ok := s.Find("b"); !ok || a.Type.Print() != "text" {
		t.Errorf("Find: %v, %t", a, ok)
	}
}
