package mark_test

import (
	"slices"
	"strings"
	"testing"

	"flange/api"
	"flange/mark"
	"flange/schema"
	"flange/text"
	"flange/value"
)

// read is a text's value, which must be there.
func read(t *testing.T, s string) value.Value {
	t.Helper()
	v, at, e := text.Read(s)
	if e != api.OK {
		t.Fatalf("value %s: %d, %d", s, at, e)
	}
	return v
}

// parse is a text's schema, which must be there.
func parse(t *testing.T, s string) *schema.Schema {
	t.Helper()
	x, at, e := schema.Parse(s)
	if e != api.OK {
		t.Fatalf("schema %q: %d, %d", s, at, e)
	}
	return x
}

const example = "version 1\nattr key text must hide\nattr more any own hide new\nattr size int\nattr zone any hide\n"

func TestRedact(t *testing.T) {
	s := parse(t, example)
	for v, want := range map[string]string{
		`{"key":"secret","more":{"a":"b"},"size":1,"zone":?}`: `{"key":"***","more":"***","size":1,"zone":"***"}`,
		`{"key":null,"more":"","size":null,"zone":[]}`:        `{"key":null,"more":"***","size":null,"zone":"***"}`,
		`{"more":[null],"zone":0}`:                            `{"more":"***","zone":"***"}`,
		`{"key":"***"}`:                                       `{"key":"***"}`,
		`{"size":"secret"}`:                                   `{"size":"secret"}`,
		`{"other":"secret","zone":false}`:                     `{"other":"secret","zone":"***"}`,
		`{"Key":"secret","keys":{"key":"secret"}}`:            `{"Key":"secret","keys":{"key":"secret"}}`,
		"{}":                 "{}",
		"null":               "null",
		"?":                  "?",
		"true":               "true",
		"7":                  "7",
		"(1,2)":              "(1,2)",
		`"key"`:              `"key"`,
		`["secret"]`:         `["secret"]`,
		`[{"key":"secret"}]`: `[{"key":"secret"}]`,
	} {
		x := read(t, v)
		if got := text.Write(mark.Redact(s, x)); got != want {
			t.Errorf("Redact %s: %s", v, got)
		}
		if text.Write(x) != v {
			t.Errorf("Redact has changed %s", v)
		}
		if got := text.Write(mark.Redact(nil, x)); got != v {
			t.Errorf("Redact %s by nil: %s", v, got)
		}
		if got := text.Write(mark.Redact(parse(t, "version 0\nattr key text\n"), x)); got != v {
			t.Errorf("Redact %s by nothing hidden: %s", v, got)
		}
	}
}

func TestSecrets(t *testing.T) {
	s := parse(t, example)
	for v, want := range map[string]string{
		`{"key":"secret"}`: "secret",
		`{"key":"four"}`:   "four",
		`{"key":"abc"}`:    "",
		`{"key":""}`:       "",
		`{"key":null}`:     "",
		`{"key":?}`:        "",
		`{"key":12345}`:    "",
		"{}":               "",
		`{"key":"text","more":"more","size":"size","zone":"zone"}`: "text|more|zone",
		`{"more":["bbbb","aaaa",["cccc"],"dddd"]}`:                 "bbbb|aaaa|cccc|dddd",
		`{"more":{"a":["2222",{"b":"44","y":"3333"}],"z":"1111"}}`: "2222|3333|1111",
		// Keys are no Texts.
		`{"more":{"secret":1}}`: "",
		// None twice.
		`{"key":"aaaa","more":["bbbb","aaaa","bbbb",["cccc"],["cccc"]],"zone":["cccc","dddd"]}`: "aaaa|bbbb|cccc|dddd",
		`{"key":"aaaa","more":"aaaaa","zone":"aaaa"}`:                                           "aaaa|aaaaa",
		// Others aren't hidden.
		`{"other":"secret","size":"secret"}`: "",
		"null":                               "",
		"?":                                  "",
		`"secret"`:                           "",
		`["secret"]`:                         "",
		`[{"key":"secret"}]`:                 "",
	} {
		x := read(t, v)
		if got := strings.Join(mark.Secrets(s, x), "|"); got != want {
			t.Errorf("Secrets %s: %s", v, got)
		}
		if got := mark.Secrets(nil, x); len(got) != 0 {
			t.Errorf("Secrets %s by nil: %s", v, got)
		}
	}
}

func TestClean(t *testing.T) {
	for i, x := range []struct {
		text    string
		secrets []string
		want    string
	}{
		{"key pass1234", []string{"pass1234"}, "key ***"},
		{"pass1234", []string{"pass1234"}, "***"},
		{"a secretsecre", []string{"secret"}, "a ***secre"},
		{"secretsecret", []string{"secret"}, "******"},
		{"secret", nil, "secret"},
		{"", []string{"secret"}, ""},
		{"", nil, ""},
		{"secre", []string{"secret"}, "secre"},
		{"Secret", []string{"secret"}, "Secret"},
		// Fewer than four bytes are no secret.
		{"abcabc", []string{"abc", "ab", "a", ""}, "abcabc"},
		{"abcdabc", []string{"abcd", "abc", ""}, "***abc"},
		// The longest one that begins there.
		{"abcdef", []string{"abcd", "abcdef", "abcde"}, "***"},
		{"abcdeg", []string{"abcd", "abcdef", "abcde"}, "***g"},
		{"abcdef", []string{"abcd", "cdef"}, "***ef"},
		// From the left to the right: what begins further left comes first, though it is shorter.
		{"abcdefgh", []string{"abcd", "bcdefgh"}, "***efgh"},
		{"abcdefgh", []string{"cdefgh", "bcde"}, "a***fgh"},
		{"aaaaaaaaa", []string{"aaaa"}, "******a"},
		{"aaaaaaaaa", []string{"aaaaa", "aaaa"}, "******"},
		{"abababab", []string{"baba"}, "a***bab"},
		{"xabcdyabcdz", []string{"abcd"}, "x***y***z"},
		// One in another one, at its beginning, in its middle, at its end.
		{"wxyz abcdwxyz", []string{"abcdwxyz", "wxyz"}, "*** ***"},
		{"1234567 2345 123456", []string{"1234567", "2345"}, "*** *** 1***6"},
		{"secret", []string{"secret", "secret"}, "***"},
		// What comes of it is no text that is gone through again.
		{"ab1234cd", []string{"1234", "b***"}, "ab***cd"},
		{"x****", []string{"****"}, "x***"},
		{"********", []string{"****"}, "******"},
		{"a\x00\xff\n\x80b", []string{"\x00\xff\n\x80"}, "a***b"},
		{"\u00e4\u00f6\u00fc", []string{"\xa4\xc3\xb6\xc3"}, "\xc3***\xbc"},
	} {
		got := mark.Clean(x.text, x.secrets...)
		if got != x.want {
			t.Errorf("%d: Clean %q, %q: %q", i, x.text, x.secrets, got)
		}
		if leaks := mark.Leaks(x.text, x.secrets...); leaks != (got != x.text) {
			t.Errorf("%d: Leaks %q, %q: %t", i, x.text, x.secrets, leaks)
		}
	}
}

func TestLeaks(t *testing.T) {
	for i, x := range []struct {
		text    string
		secrets []string
		want    bool
	}{
		{"", nil, false},
		{"", []string{""}, false},
		{"abc", []string{"", "a", "abc"}, false},
		{"abcd", []string{"", "a", "abc"}, false},
		{"abcd", []string{"abcd"}, true},
		{"abcd", []string{"x", "abcd"}, true},
		{"abcd", []string{"abcde", "bcda", "xbcd"}, false},
		{"xxabcdxx", []string{"wwww", "abcd"}, true},
		{"xxabcd", []string{"abcd"}, true},
		{"aaab aaac", []string{"aaad", "aaac"}, true},
		{"***", []string{"***"}, false},
		{"****", []string{"****"}, true},
	} {
		if got := mark.Leaks(x.text, x.secrets...); got != x.want {
			t.Errorf("%d: Leaks %q, %q: %t", i, x.text, x.secrets, got)
		}
	}
}

func TestUnknown(t *testing.T) {
	for v, want := range map[string][]string{
		"?":                       {""},
		"null":                    nil,
		"1":                       nil,
		`"?"`:                     nil,
		"[]":                      nil,
		"{}":                      nil,
		`{"a":[1,(2,-3),"?"]}`:    nil,
		"[?]":                     {"[0]"},
		"[1,?,null,?]":            {"[1]", "[3]"},
		`{"":?,"A":1,"a":?}`:      {`.""`, `."a"`},
		`{"x":[?,1]}`:             {`."x"[0]`},
		`[{"b":?,"c":[[?],?]},?]`: {`[0]."b"`, `[0]."c"[0][0]`, `[0]."c"[1]`, "[1]"},
		`{"a":{"z":?},"b":[],"c":{"a":{"b":{"c":?}}}}`: {`."a"."z"`, `."c"."a"."b"."c"`},
	} {
		l := mark.Unknown(read(t, v))
		var got []string
		for _, way := range l {
			got = append(got, text.Path(way...))
			for _, s := range way {
				if s.Key != "" && s.At != -1 {
					t.Errorf("Unknown %s: a step of %d", v, s.At)
				}
			}
		}
		if !slices.Equal(got, want) {
			t.Errorf("Unknown %s: %s", v, got)
		}
	}
	// A key without bytes is told from a place.
	if l := mark.Unknown(read(t, `{"":?}`)); len(l) != 1 || len(l[0]) != 1 || l[0][0] != (value.Step{At: -1}) {
		t.Errorf("Unknown: %v", l)
	}
}

func TestFill(t *testing.T) {
	for _, x := range []struct{ v, known, want string }{
		{"?", "1", "1"}, {"?", "null", "null"}, {"?", "?", "?"}, {"?", `{"a":?}`, `{"a":?}`}, {"?", "[]", "[]"},
		{"1", "2", "1"}, {"null", "1", "null"}, {`"x"`, "?", `"x"`}, {"[]", "[1]", "[]"}, {"{}", `{"a":1}`, "{}"}, {"[1]", "1", "[1]"},
		{"[?,1,?]", "[5,6,7]", "[5,1,7]"},
		{"[?,?]", "[5]", "[5,?]"}, {"[?]", "[5,6]", "[5]"}, {"[?]", "[]", "[?]"},
		{"[?]", "[?]", "[?]"}, {"[?]", "[null]", "[null]"},
		{`{"a":?,"b":?,"c":1}`, `{"a":1,"c":2,"d":3}`, `{"a":1,"b":?,"c":1}`},
		{`{"":?}`, `{"":"x"}`, `{"":"x"}`},
		{`{"a":{"b":[?,{"c":?}]}}`, `{"a":{"b":[(1,2),{"c":[true]}]}}`, `{"a":{"b":[(1,2),{"c":[true]}]}}`},
		// Steps lead through other kinds, or through nothing.
		{`{"a":[?]}`, `{"a":{"":1}}`, `{"a":[?]}`}, {`{"a":{"b":?}}`, `{"a":[1]}`, `{"a":{"b":?}}`}, {`{"a":{"b":?}}`, `{"a":?}`, `{"a":{"b":?}}`}, {`{"a":{"b":?}}`, `{"a":null}`, `{"a":{"b":?}}`},
		{`{"a":{"b":?}}`, "{}", `{"a":{"b":?}}`}, {"[?]", `{"":1}`, "[?]"}, {`{"a":?}`, "[1]", `{"a":?}`}, {"[[?]]", "[]", "[[?]]"}, {"[?]", "1", "[?]"}, {"[?]", "?", "[?]"},
		{`{"a":[?],"b":{"x":?,"y":?}}`, `{"a":1,"b":{"y":{"z":1}}}`, `{"a":[?],"b":{"x":?,"y":{"z":1}}}`},
	} {
		v, known := read(t, x.v), read(t, x.known)
		if got := text.Write(mark.Fill(v, known)); got != x.want {
			t.Errorf("Fill %s, %s: %s", x.v, x.known, got)
		}
		if text.Write(v) != x.v || text.Write(known) != x.known {
			t.Errorf("Fill has changed %s, or %s", x.v, x.known)
		}
	}
}

// TestMemory is of what is handed in, and handed out: none of it is shared.
func TestMemory(t *testing.T) {
	secrets := make([]string, 3, 4)
	secrets[0], secrets[1], secrets[2] = "abcd", "abcdef", "x"
	mark.Clean("abcdef", secrets...)
	mark.Leaks("abcdef", secrets...)
	if !slices.Equal(secrets[:4], []string{"abcd", "abcdef", "x", ""}) {
		t.Errorf("what was handed in has changed: %q", secrets[:4])
	}
	s, v := parse(t, example), read(t, `{"key":"secret","more":["more","than"]}`)
	l := mark.Secrets(s, v)
	l[0] = "spoilt"
	if got := mark.Secrets(s, v); !slices.Equal(got, []string{"secret", "more", "than"}) {
		t.Errorf("Secrets: %q", got)
	}
	inner := read(t, `[[?,?],{"a":?}]`)
	v = value.List(inner, inner, value.List(inner))
	ways := mark.Unknown(v)
	if len(ways) != 9 {
		t.Fatalf("Unknown: %v", ways)
	}
	for i, way := range ways {
		all := way[:cap(way)]
		for j := range all {
			all[j] = value.Step{Key: "spoilt"}
		}
		for j := i + 1; j < len(ways); j++ {
			if !slices.Equal(ways[j], mark.Unknown(v)[j]) {
				t.Fatalf("ways %d and %d share memory", i, j)
			}
		}
	}
}
