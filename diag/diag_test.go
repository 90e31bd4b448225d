package diag_test

import (
	"bytes"
	"slices"
	"strings"
	"testing"

	"flange/api"
	"flange/diag"
	"flange/message"
)

// bad and warn are notes.
func bad(s string) diag.Note {
	return diag.Note{Error: true, Text: s}
}

func warn(s string) diag.Note {
	return diag.Note{Text: s}
}

func TestText(t *testing.T) {
	x := func(n int) string { return strings.Repeat("x", n) }
	for _, c := range []struct {
		s, want string
		secrets []string
	}{
		{"", "", nil},
		{"plain", "plain", nil},
		{"no\npass", "no?pass", nil},
		{" ~", " ~", nil},
		{"\x1f \x20~\x7f\x80\xff\x00", "?  ~????", nil},
		{"\u00e9", "??", nil},
		{"***?", "***?", nil},
		// Of 80 bytes nothing is cut.
		{x(77), x(77), nil}, {x(79), x(79), nil}, {x(80), x(80), nil}, {x(81), x(77) + "...", nil}, {x(1000), x(77) + "...", nil},
		{x(76) + "abcde", x(76) + "a...", nil},
		{x(76) + "\x00bcde", x(76) + "?...", nil},
		{x(76) + "\x00bcd", x(76) + "?bcd", nil},
		{x(80) + "\n", x(77) + "...", nil},
		{strings.Repeat("\u00e9", 40), strings.Repeat("?", 80), nil},
		{strings.Repeat("\u00e9", 41), strings.Repeat("?", 77) + "...", nil},
		// Secrets.
		{"no pass1234 here", "no *** here", []string{"pass1234"}},
		{"pass1234 pass", "*** ***", []string{"pass", "pass1234"}},
		{"abc abcd", "abc ***", []string{"abc", "abcd"}},
		{"", "", []string{"", "abcd"}},
		{"no\npass", "no?pass", []string{"none"}},
		// They are gone ahead of what has a ? instead, or is cut.
		{"a\nbc", "***", []string{"a\nbc"}},
		{"a\nbc", "a?bc", []string{"a?bc"}},
		{"a?bc", "***", []string{"a?bc"}},
		{x(76) + "secret", x(76) + "***", []string{"secret"}},
		{x(77) + "secret", x(77) + "***", []string{"secret"}},
		{x(78) + "secret", x(77) + "...", []string{"secret"}},
		{"secret" + x(77), "***" + x(77), []string{"secret"}},
		{"secret" + x(78), "***" + x(74) + "...", []string{"secret"}},
		{x(200) + "a", "***a", []string{x(200)}},
		{x(81), x(77) + "...", []string{"x..."}},
	} {
		if got := diag.Text(c.s, c.secrets...); got != c.want {
			t.Errorf("Text %q, %q: %q; not %q", c.s, c.secrets, got, c.want)
		}
	}
}

func TestClean(t *testing.T) {
	long := strings.Repeat("x", 77)
	notes := func(l ...diag.Note) []diag.Note { return l }
	for i, c := range []struct {
		l, want []diag.Note
		secrets []string
	}{
		{nil, nil, nil},
		{notes(warn(""), bad(""), warn("")), nil, nil},
		{notes(warn("b"), bad("a"), warn("c")), notes(warn("b"), bad("a"), warn("c")), nil},
		{notes(warn(""), warn("b"), bad(""), bad("a")), notes(warn("b"), bad("a")), nil},
		{notes(warn("a\n"), bad("b\xff")), notes(warn("a?"), bad("b?")), nil},
		// Alike: the first one alone; an error isn't a warning.
		{notes(warn("a"), warn("b"), warn("a"), warn("a"), warn("b")), notes(warn("a"), warn("b")), nil},
		{notes(warn("a"), bad("a"), warn("a"), bad("a")), notes(warn("a"), bad("a")), nil},
		{notes(bad("b"), warn("b"), bad("a")), notes(bad("b"), warn("b"), bad("a")), nil},
		{notes(warn("a"), warn("A"), warn("a ")), notes(warn("a"), warn("A"), warn("a ")), nil},
		// As they are then.
		{notes(warn("a\n"), warn("a\r"), warn("a?"), bad("a\n")), notes(warn("a?"), bad("a?")), nil},
		{notes(warn(long+"abcd"), warn(long+"efgh"), warn(long+"..."), warn(long+"a")), notes(warn(long+"..."), warn(long+"a")), nil},
		{notes(warn("key secret\x01"), bad(""), warn("key ***?")), notes(warn("key ***?")), []string{"secret"}},
		{notes(bad("no pass1"), bad("no pass2"), bad("no pass3")), notes(bad("no ***"), bad("no pass3")), []string{"pass1", "pass2"}},
		{notes(bad("pass")), notes(bad("***")), []string{"pass"}},
		// The first eight of these.
		{of("12345678"), of("12345678"), nil},
		{of("123456789abc"), of("12345678"), nil},
		{of("1123345567811"), of("12345678"), nil},
		{of("12233344445555566666679678"), of("12345679"), nil},
		{slices.Concat(notes(warn("")), of("1234"), notes(warn(""), bad("")), of("56789")), of("12345678"), nil},
		{slices.Concat(of("1234567"), notes(bad("1"), bad("2"))), slices.Concat(of("1234567"), notes(bad("1"))), nil},
		{slices.Concat(of("12345678"), notes(bad("1"))), of("12345678"), nil},
	} {
		was := slices.Clone(c.l)
		if got := diag.Clean(c.l, c.secrets...); !slices.Equal(got, c.want) {
			t.Errorf("%d: Clean %v: %v", i, c.l, got)
		}
		if !slices.Equal(c.l, was) {
			t.Errorf("%d: Clean has changed what was handed in", i)
		}
	}
}

// of is a warning of each byte.
func of(s string) []diag.Note {
	var l []diag.Note
	for _, x := range strings.Split(s, "") {
		l = append(l, warn(x))
	}
	return l
}

func TestFails(t *testing.T) {
	for i, c := range []struct {
		l    []diag.Note
		want bool
	}{
		{nil, false},
		{of("abc"), false},
		{[]diag.Note{bad("a")}, true},
		{[]diag.Note{bad("")}, true},
		{append(of("abcdefghijkl"), bad("a")), true},
		{append([]diag.Note{bad("a")}, of("abc")...), true},
		{[]diag.Note{warn(""), warn("error: a")}, false},
	} {
		if got := diag.Fails(c.l); got != c.want {
			t.Errorf("%d: Fails %v: %t", i, c.l, got)
		}
	}
}

func TestEncode(t *testing.T) {
	for i, c := range []struct {
		l    []diag.Note
		want string
	}{
		{nil, ""},
		{[]diag.Note{bad("ab")}, "\x03\x02ab"},
		{[]diag.Note{warn("ab")}, "\x05\x02ab"},
		{[]diag.Note{bad("")}, "\x03\x00"},
		{[]diag.Note{warn(""), bad("")}, "\x03\x00\x05\x00"},
		{[]diag.Note{warn("w"), bad("e")}, "\x03\x01e\x05\x01w"},
		{[]diag.Note{warn("2"), bad("2"), bad("1"), warn("1"), bad("2"), warn("1")}, "\x03\x012\x03\x011\x03\x012\x05\x012\x05\x011\x05\x011"},
		{[]diag.Note{bad("\x00\xff\n")}, "\x03\x03\x00\xff\n"},
		{[]diag.Note{warn(strings.Repeat("x", 200))}, "\x05\xc8\x01" + strings.Repeat("x", 200)},
	} {
		was := slices.Clone(c.l)
		if got, e := diag.Encode(c.l...); e != api.OK || string(got) != c.want {
			t.Errorf("%d: Encode %v: %q, %d", i, c.l, got, e)
		}
		if !slices.Equal(c.l, was) {
			t.Errorf("%d: Encode has changed what was handed in", i)
		}
	}
}

// TestEncodeMany is of notes in order where more stand than a simple way to sort would keep so.
func TestEncodeMany(t *testing.T) {
	var l, errors, warnings []diag.Note
	for i := range 64 {
		n := diag.Note{Error: i%3 == 0, Text: strings.Repeat("x", 63-i)}
		l = append(l, n)
		if n.Error {
			errors = append(errors, n)
		} else {
			warnings = append(warnings, n)
		}
	}
	b, e := diag.Encode(l...)
	got, f := diag.Decode(b)
	if e != api.OK || f != api.OK || !slices.Equal(got, slices.Concat(errors, warnings)) {
		t.Errorf("Encode: %v, %d, %d", got, e, f)
	}
}

func TestEncodeLong(t *testing.T) {
	text := func(n int) diag.Note { return warn(strings.Repeat("x", n)) }
	for i, c := range []struct {
		l    []diag.Note
		want api.Errno
	}{
		{make([]diag.Note, 64), api.OK},
		{make([]diag.Note, 65), api.ErrLong},
		{make([]diag.Note, 100000), api.ErrLong},
		{[]diag.Note{text(4093)}, api.OK},
		{[]diag.Note{text(4094)}, api.ErrLong},
		{[]diag.Note{text(4096)}, api.ErrLong},
		{[]diag.Note{text(4097)}, api.ErrLong},
		{[]diag.Note{text(1 << 20)}, api.ErrLong},
		{[]diag.Note{text(2045), text(2045)}, api.OK},
		{[]diag.Note{text(2045), text(2046)}, api.ErrLong},
		{[]diag.Note{bad("a"), text(4091)}, api.ErrLong},
		{[]diag.Note{bad("a"), text(4090)}, api.OK},
		{append(slices.Repeat([]diag.Note{text(62)}, 63), text(62)), api.OK},
		{append(slices.Repeat([]diag.Note{text(62)}, 63), text(63)), api.ErrLong},
		{slices.Repeat([]diag.Note{text(1 << 24)}, 64), api.ErrLong},
		{append(slices.Repeat([]diag.Note{text(0)}, 63), text(1<<24)), api.ErrLong},
	} {
		b, e := diag.Encode(c.l...)
		if e != c.want || e != api.OK && len(b) != 0 || len(b) > api.MaxFrame {
			t.Errorf("%d: Encode of %d notes: %d bytes, %d", i, len(c.l), len(b), e)
		}
		if l, f := diag.Decode(b); e == api.OK && (f != api.OK || !slices.Equal(l, c.l) && c.l[0].Error == c.l[len(c.l)-1].Error) {
			t.Errorf("%d: Decode: %d notes, %d", i, len(l), f)
		}
	}
}

func TestDecode(t *testing.T) {
	for _, c := range []struct {
		b    string
		want []diag.Note
	}{
		{"", nil},
		{"\x03\x02ab", []diag.Note{bad("ab")}},
		{"\x05\x02ab", []diag.Note{warn("ab")}},
		{"\x03\x00\x05\x00", []diag.Note{bad(""), warn("")}},
		{"\x03\x012\x03\x011\x05\x012\x05\x011", []diag.Note{bad("2"), bad("1"), warn("2"), warn("1")}},
		{"\x05\x03\x00\xff\n", []diag.Note{warn("\x00\xff\n")}},
	} {
		b := []byte(c.b)
		got, e := diag.Decode(b)
		clear(b)
		if e != api.OK || !slices.Equal(got, c.want) {
			t.Errorf("Decode %q: %v, %d", c.b, got, e)
		}
	}
}

func TestDecodeWrong(t *testing.T) {
	for _, b := range []string{
		// Other tags, or numbers.
		"\x07\x00", "\x01\x00", "\x03\x01a\x07\x01b", "\x02\x05", "\x04\x05", "\x02\x00", "\x04\x00", "\x03\x01a\x04\x05", "\x02\x05\x05\x01a", "\x06\x05",
		// Errors behind warnings.
		"\x05\x01w\x03\x01e", "\x03\x01e\x05\x01w\x03\x01e",
		// A tag as a number, and as bytes.
		"\x02\x05\x03\x01a", "\x03\x01a\x02\x05", "\x02\x05\x02\x05",
		// No messages at all.
		"\x03", "\x03\x02a", "\x03\x82", "\x83\x00\x01a", "\x03\x81\x00a", "\x00", "a", "\x03\x01ab", "\x05\xff\xff\xff\xff\xff\xff\xff\xff\xff\x01",
		strings.Repeat("\x05\x00", 65), "\x05\xfe\x1f" + strings.Repeat("x", 4094),
	} {
		if got, e := diag.Decode([]byte(b)); e != api.ErrForm || len(got) != 0 {
			t.Errorf("Decode %q: %v, %d", b, got, e)
		}
	}
	b, _ := message.Encode(message.Blob(1, []byte("a")), message.Blob(2, []byte("b")), message.Num(3, 1))
	if got, e := diag.Decode(b); e != api.ErrForm || len(got) != 0 {
		t.Errorf("Decode of one more: %v, %d", got, e)
	}
}

func TestLines(t *testing.T) {
	for _, c := range []struct {
		l    []diag.Note
		want string
	}{
		{nil, ""},
		{[]diag.Note{bad("no size")}, "error: no size\n"},
		{[]diag.Note{warn("old")}, "warning: old\n"},
		{[]diag.Note{warn("b"), bad("a"), warn("")}, "warning: b\nerror: a\nwarning: \n"},
		// As they stand: neither cleaned, nor once alone.
		{[]diag.Note{bad("a\nb"), bad("a\nb"), bad("")}, "error: a\nb\nerror: a\nb\nerror: \n"},
		{slices.Repeat([]diag.Note{bad(strings.Repeat("x", 100))}, 9), strings.Repeat("error: "+strings.Repeat("x", 100)+"\n", 9)},
	} {
		if got := diag.Lines(c.l); got != c.want {
			t.Errorf("Lines %v: %q", c.l, got)
		}
	}
}

// TestMemory: what is handed in stays as it is, and what is answered is new memory.
func TestMemory(t *testing.T) {
	l := []diag.Note{warn("w\n"), bad("e"), bad("spare")}
	secrets := []string{"aaaa", "spare"}
	for range 2 {
		got := diag.Clean(l[:2], secrets[:1]...)
		b, _ := diag.Encode(l[:2]...)
		if !slices.Equal(got, []diag.Note{warn("w?"), bad("e")}) || !bytes.Equal(b, []byte("\x03\x01e\x05\x02w\n")) {
			t.Errorf("Clean: %v; Encode: %q", got, b)
		}
		got[0], got[1] = diag.Note{}, diag.Note{}
		_, _ = append(got, bad("spoilt")), append(b, 7)
		clear(b)
	}
	if !slices.Equal(l, []diag.Note{warn("w\n"), bad("e"), bad("spare")}) || !slices.Equal(secrets, []string{"aaaa", "spare"}) {
		t.Error("what was handed in has changed")
	}
}
