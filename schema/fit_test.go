package schema_test

import (
	"strings"
	"testing"

	"flange/api"
	"flange/schema"
	"flange/text"
	"flange/value"
)

const example = "version 3\nattr id text own\nattr name text must hide\nattr ports list(int) new\nattr size int must new\nattr tag any\n"

func TestFits(t *testing.T) {
	s := parse(t, example)
	for _, x := range []struct {
		v, name string
		want    api.Errno
	}{
		{`{"name":"n","size":1}`, "", api.OK},
		{`{"name":"","size":?}`, "", api.OK},
		{`{"id":null,"name":?,"ports":null,"size":0,"tag":null}`, "", api.OK},
		{`{"id":"x","name":"n","ports":[1,?,null],"size":1,"tag":{"a":[true]}}`, "", api.OK},
		{`{"id":?,"name":"n","ports":[],"size":1,"tag":?}`, "", api.OK},
		{"null", "", api.ErrType},
		{"?", "", api.ErrType},
		{"true", "", api.ErrType},
		{"1", "", api.ErrType},
		{"(1,2)", "", api.ErrType},
		{`"size"`, "", api.ErrType},
		{"[]", "", api.ErrType},
		{`[{"name":"n","size":1}]`, "", api.ErrType},
		{"{}", "name", api.ErrNone},
		{`{"size":1}`, "name", api.ErrNone},
		{`{"name":null,"size":1}`, "name", api.ErrNone},
		{`{"name":"n"}`, "size", api.ErrNone},
		{`{"name":"n","size":null}`, "size", api.ErrNone},
		{`{"name":null,"size":null}`, "name", api.ErrNone},
		{`{"":1,"name":"n","size":1}`, "", api.ErrName},
		{`{"ID":"x","name":"n","size":1}`, "ID", api.ErrName},
		{`{"name":"n","siz":null,"size":1}`, "siz", api.ErrName},
		{`{"name":"n","size":1,"zz":?}`, "zz", api.ErrName},
		{`{"id":1,"name":"n","size":1}`, "id", api.ErrType},
		{`{"name":1,"size":1}`, "name", api.ErrType},
		{`{"name":"n","ports":[1,"2"],"size":1}`, "ports", api.ErrType},
		{`{"name":"n","ports":1,"size":1}`, "ports", api.ErrType},
		{`{"name":"n","size":"1"}`, "size", api.ErrType},
		{`{"name":"n","size":true,"tag":1}`, "size", api.ErrType},
		// The first key, rising, whatever is wrong with it; then what is missing.
		{`{"a":1,"id":1}`, "a", api.ErrName},
		{`{"id":1,"j":1}`, "id", api.ErrType},
		{`{"size":"x","zz":1}`, "size", api.ErrType},
		{`{"tag":1,"zz":1}`, "zz", api.ErrName},
		{`{"name":null,"size":"1"}`, "size", api.ErrType},
	} {
		v := read(t, x.v)
		if name, e := s.Fits(v); name != x.name || e != x.want {
			t.Errorf("Fits %s: %q, %d", x.v, name, e)
		}
		if f, e := s.Fill(v); e != x.want || e != api.OK && f.Kind() != value.KindNull {
			t.Errorf("Fill %s: %s, %d", x.v, text.Write(f), e)
		}
	}
}

func TestFill(t *testing.T) {
	s := parse(t, example)
	for v, want := range map[string]string{
		`{"name":"n","size":1}`:                                             `{"id":?,"name":"n","ports":null,"size":1,"tag":null}`,
		`{"id":null,"name":"n","ports":null,"size":1,"tag":null}`:           `{"id":?,"name":"n","ports":null,"size":1,"tag":null}`,
		`{"id":?,"name":?,"ports":?,"size":?,"tag":?}`:                      `{"id":?,"name":?,"ports":?,"size":?,"tag":?}`,
		`{"id":"x","name":"n","ports":[null],"size":1,"tag":{"id":null}}`:   `{"id":"x","name":"n","ports":[null],"size":1,"tag":{"id":null}}`,
		`{"id":"","name":"","ports":[],"size":0,"tag":[false,(0,0),"",{}]}`: `{"id":"","name":"","ports":[],"size":0,"tag":[false,(0,0),"",{}]}`,
	} {
		f, e := s.Fill(read(t, v))
		if e != api.OK || text.Write(f) != want {
			t.Errorf("Fill %s: %s, %d", v, text.Write(f), e)
		}
		again, e := s.Fill(f)
		if e != api.OK || !value.Same(again, f) {
			t.Errorf("Fill %s: %s, %d", text.Write(f), text.Write(again), e)
		}
	}
	none := parse(t, "version 0\n")
	if f, e := none.Fill(read(t, "{}")); e != api.OK || text.Write(f) != "{}" {
		t.Errorf("Fill: %s, %d", text.Write(f), e)
	}
}

func TestHolds(t *testing.T) {
	s := parse(t, example)
	for _, x := range []struct {
		v, name string
		want    api.Errno
	}{
		{`{"id":null,"name":null,"ports":null,"size":null,"tag":null}`, "", api.OK},
		{`{"id":?,"name":?,"ports":?,"size":?,"tag":?}`, "", api.OK},
		{`{"id":"x","name":"n","ports":[1],"size":1,"tag":1}`, "", api.OK},
		{"null", "", api.ErrType},
		{"?", "", api.ErrType},
		{"[]", "", api.ErrType},
		{`"x"`, "", api.ErrType},
		{"{}", "id", api.ErrNone},
		{`{"name":"n","ports":[1],"size":1,"tag":1}`, "id", api.ErrNone},
		{`{"id":"x","name":"n","size":1,"tag":1}`, "ports", api.ErrNone},
		{`{"id":"x","name":"n","ports":[1],"size":1}`, "tag", api.ErrNone},
		{`{"id":"x","name":"n","size":1}`, "ports", api.ErrNone},
		{`{"id":"x","name":"n","ports":[1],"size":1,"tag":1,"tags":1}`, "tags", api.ErrName},
		{`{"":null,"id":1}`, "", api.ErrName},
		{`{"id":1,"name":"n","ports":[1],"size":1,"tag":1}`, "id", api.ErrType},
		{`{"id":"x","ports":[[]]}`, "ports", api.ErrType},
		{`{"id":true,"zz":1}`, "id", api.ErrType},
		{`{"aa":true,"id":1}`, "aa", api.ErrName},
		{`{"zz":1}`, "zz", api.ErrName},
	} {
		if name, e := s.Holds(read(t, x.v)); name != x.name || e != x.want {
			t.Errorf("Holds %s: %q, %d", x.v, name, e)
		}
	}
}

// TestAllFits goes through all small configurations of small schemas, and holds what is told of them against the document's words.
func TestAllFits(t *testing.T) {
	fit := 0
	for _, a := range []string{"int", "int must", "int own", "text must hide", "any own new"} {
		for _, b := range []string{"text", "text must", "list(int) own", "any must"} {
			s := parse(t, "version 1\nattr a "+a+"\nattr b "+b+"\n")
			for _, v := range maps(t, "A", "a", "aa", "b", "c") {
				name, want := wrong(s, v, func(x schema.Attr, v value.Value) bool {
					y, ok := v.At(x.Name)
					return x.Must && (!ok || y.Kind() == value.KindNull)
				})
				if got, e := s.Fits(v); got != name || e != want {
					t.Fatalf("Fits %s by %q: %q, %d", text.Write(v), s.Print(), got, e)
				}
				hname, hwant := wrong(s, v, func(x schema.Attr, v value.Value) bool {
					_, ok := v.At(x.Name)
					return !ok
				})
				if got, e := s.Holds(v); got != hname || e != hwant {
					t.Fatalf("Holds %s by %q: %q, %d", text.Write(v), s.Print(), got, e)
				}
				f, e := s.Fill(v)
				if e != want || !value.Same(f, filled(s, v, want)) {
					t.Fatalf("Fill %s by %q: %s, %d", text.Write(v), s.Print(), text.Write(f), e)
				}
				if _, e := s.Holds(f); want == api.OK && e != api.OK {
					t.Fatalf("what is filled doesn't hold: %s by %q", text.Write(f), s.Print())
				}
				if want == api.OK {
					fit++
				}
			}
		}
	}
	if fit < 100 {
		t.Errorf("%d configurations fit", fit)
	}
}

// maps is all Maps of some of these keys, with a few values.
func maps(t *testing.T, keys ...string) []value.Value {
	all := []value.Value{read(t, "{}")}
	for _, k := range keys {
		for _, m := range all {
			for _, x := range []string{"null", "?", "1", `"x"`, "[1]"} {
				w, e := m.With(read(t, x), value.Step{Key: k, At: -1})
				if e != api.OK {
					t.Fatal(e)
				}
				all = append(all, w)
			}
		}
	}
	return all
}

// wrong is the first key or name that is wrong, by what is missing.
func wrong(s *schema.Schema, v value.Value, missing func(schema.Attr, value.Value) bool) (string, api.Errno) {
	for _, k := range v.Keys() {
		x, _ := v.At(k)
		a, ok := s.Find(k)
		if !ok {
			return k, api.ErrName
		}
		if !a.Type.Takes(x) {
			return k, api.ErrType
		}
	}
	for _, a := range s.Attrs() {
		if missing(a, v) {
			return a.Name, api.ErrNone
		}
	}
	return "", api.OK
}

func filled(s *schema.Schema, v value.Value, e api.Errno) value.Value {
	if e != api.OK {
		return value.Unset()
	}
	for _, a := range s.Attrs() {
		x, _ := v.At(a.Name)
		if a.Own && x.Kind() == value.KindNull {
			x = value.Later()
		}
		v, _ = v.With(x, value.Step{Key: a.Name, At: -1})
	}
	return v
}

// TestGreat is of values that nobody could go through one by one.
func TestGreat(t *testing.T) {
	s := parse(t, "version 1\nattr a "+strings.Repeat("list(", 7)+"int"+strings.Repeat(")", 7)+"\nattr b any\n")
	v := value.Int(1)
	for range 7 {
		l := make([]value.Value, 64)
		for i := range l {
			l[i] = v
		}
		v = value.List(l...)
	}
	deep := value.Unset()
	for range 1 << 20 {
		deep = value.List(deep)
	}
	m, _ := value.Map([]string{"a", "b"}, []value.Value{v, deep})
	if name, e := s.Fits(m); name != "" || e != api.OK {
		t.Errorf("Fits: %q, %d", name, e)
	}
	if f, e := s.Fill(m); e != api.OK || !value.Same(f, m) {
		t.Errorf("Fill: %d", e)
	}
	m, _ = value.Map([]string{"a", "b"}, []value.Value{deep, v})
	if name, e := s.Holds(m); name != "a" || e != api.ErrType {
		t.Errorf("Holds: %q, %d", name, e)
	}
}
