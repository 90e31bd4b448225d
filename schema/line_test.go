package schema_test

import (
	"regexp"
	"strconv"
	"strings"
	"testing"

	"flange/api"
	"flange/kind"
	"flange/schema"
)

func TestParse(t *testing.T) {
	lines := []string{"version 5\n"}
	for i, k := range []string{"any", "bool", "int", "point", "text", "list(int)", "map(any)", "[]", "[int,text]", "{}", "{a:int,b?:list(text)}"} {
		for m, marks := range []string{"", " must", " own", " hide", " new", " must hide", " must new", " own hide", " own new", " hide new", " must hide new", " own hide new"} {
			line := "attr a" + strconv.Itoa(i) + string(rune('a'+m)) + " " + k + marks + "\n"
			lines = append(lines, line)
			s := parse(t, "version 0\n"+line)
			if s.Print() != "version 0\n"+line {
				t.Errorf("Print of %q: %q", line, s.Print())
			}
			a := s.Attrs()[0]
			if a.Type.Print() != k || a.Must != strings.Contains(marks, "must") || a.Own != strings.Contains(marks, "own") || a.Hide != strings.Contains(marks, "hide") || a.New != strings.Contains(marks, "new") {
				t.Errorf("Attrs of %q: %v", line, a)
			}
		}
	}
	for n := range api.MaxAttrs + 1 {
		whole := strings.Join(lines[:n+1], "")
		s := parse(t, whole)
		if s.Print() != whole || s.Version() != 5 || len(s.Attrs()) != n {
			t.Errorf("Print of %q: %q", whole, s.Print())
		}
	}
	for n := range 1001 {
		whole := "version " + strconv.Itoa(n) + "\n"
		if s := parse(t, whole); s.Version() != n || s.Print() != whole {
			t.Errorf("Version of %q: %d", whole, s.Version())
		}
	}
}

func TestParseWrong(t *testing.T) {
	many := "version 1\nattr " + strings.Join(names(16), " int\nattr ") + " int\n"
	name21 := strings.Repeat("a", api.MaxName+1)
	deep := strings.Repeat("list(", api.MaxDeep) + "int" + strings.Repeat(")", api.MaxDeep)
	for _, x := range []struct {
		text string
		at   int
		want api.Errno
	}{
		{"", 1, api.ErrForm},
		{"\n", 1, api.ErrForm},
		{"version", 1, api.ErrForm},
		{"version\n", 1, api.ErrForm},
		{"version \n", 1, api.ErrForm},
		{"version 1", 1, api.ErrForm},
		{"version 1 \n", 1, api.ErrForm},
		{"version  1\n", 1, api.ErrForm},
		{" version 1\n", 1, api.ErrForm},
		{"Version 1\n", 1, api.ErrForm},
		{"versio 1\n", 1, api.ErrForm},
		{"attr a int\n", 1, api.ErrForm},
		{"1\n", 1, api.ErrForm},
		{"version 1\r\n", 1, api.ErrForm},
		{"version 01\n", 1, api.ErrForm},
		{"version 00\n", 1, api.ErrForm},
		{"version -0\n", 1, api.ErrForm},
		{"version +1\n", 1, api.ErrForm},
		{"version 1_0\n", 1, api.ErrForm},
		{"version 0x1\n", 1, api.ErrForm},
		{"version 1.0\n", 1, api.ErrForm},
		{"version -\n", 1, api.ErrForm},
		{"version 1 must\n", 1, api.ErrForm},
		{"version 9223372036854775808\n", 1, api.ErrForm},
		{"version -9223372036854775809\n", 1, api.ErrForm},
		{"version 1001\n", 1, api.ErrRange},
		{"version -1\n", 1, api.ErrRange},
		{"version 9223372036854775807\n", 1, api.ErrRange},
		{"version -9223372036854775808\n", 1, api.ErrRange},
		{"version 1001\nx\n", 1, api.ErrRange},
		{"version 1001", 1, api.ErrForm},
		{"version 1\n\n", 2, api.ErrForm},
		{"version 1\n\nattr a int\n", 2, api.ErrForm},
		{"version 1\nversion 1\n", 2, api.ErrForm},
		{"version 1\nattr a int", 2, api.ErrForm},
		{"version 1\nattr\n", 2, api.ErrForm},
		{"version 1\nattr \n", 2, api.ErrForm},
		{"version 1\nattr a\n", 2, api.ErrForm},
		{"version 1\nattr a \n", 2, api.ErrForm},
		{"version 1\nattr a  int\n", 2, api.ErrForm},
		{"version 1\nattr a int \n", 2, api.ErrForm},
		{"version 1\n attr a int\n", 2, api.ErrForm},
		{"version 1\nattrs a int\n", 2, api.ErrForm},
		{"version 1\nattr a int\r\n", 2, api.ErrForm},
		{"version 1\nattr a\tint\n", 2, api.ErrForm},
		{"version 1\nattr a number\n", 2, api.ErrForm},
		{"version 1\nattr a list(int\n", 2, api.ErrForm},
		{"version 1\nattr a [int, text]\n", 2, api.ErrForm},
		{"version 1\nattr a {b:int,a:int}\n", 2, api.ErrForm},
		{"version 1\nattr a " + deep + "\n", 2, api.ErrForm},
		{"version 1\nattr a " + strings.Repeat("x", 4097) + "\n", 2, api.ErrForm},
		{"version 1\nattr a int must must\n", 2, api.ErrForm},
		{"version 1\nattr a int own must\n", 2, api.ErrForm},
		{"version 1\nattr a int hide own\n", 2, api.ErrForm},
		{"version 1\nattr a int new hide\n", 2, api.ErrForm},
		{"version 1\nattr a int Must\n", 2, api.ErrForm},
		{"version 1\nattr a int must  new\n", 2, api.ErrForm},
		{"version 1\nattr a int mustnew\n", 2, api.ErrForm},
		{"version 1\nattr a int int\n", 2, api.ErrForm},
		{"version 1\nattr a int must own\n", 2, api.ErrArg},
		{"version 1\nattr a int must own hide new\n", 2, api.ErrArg},
		{"version 1\nattr a int must own x\n", 2, api.ErrForm},
		{"version 1\nattr a int must own", 2, api.ErrForm},
		{"version 1\nattr A int\n", 2, api.ErrName},
		{"version 1\nattr  int\n", 2, api.ErrName},
		{"version 1\nattr " + name21 + " int\n", 2, api.ErrName},
		{"version 1\nattr A int must own\n", 2, api.ErrName},
		{"version 1\nattr A number\n", 2, api.ErrForm},
		{"version 1\nattr A int new must\n", 2, api.ErrForm},
		{"version 1\nattr a int\nattr a int\n", 3, api.ErrTwice},
		{"version 1\nattr a int\nattr a int must own\n", 3, api.ErrTwice},
		{"version 1\nattr a int\nattr a number\n", 3, api.ErrForm},
		{"version 1\nattr b int\nattr a int\n", 3, api.ErrForm},
		{"version 1\nattr b int\nattr a int must own\n", 3, api.ErrForm},
		{"version 1\nattr b int\nattr a int\nattr c int must own\n", 3, api.ErrForm},
		{"version 1\nattr a int\nattr b int must own\nx", 3, api.ErrArg},
		{"version 1\nattr a int\nattr b int\nx\n", 4, api.ErrForm},
		{"version 1\nattr a int\nattr b int\nattr c int", 4, api.ErrForm},
		{many + "attr b int\n", 18, api.ErrLong},
		{many + "attr A int must own\n", 18, api.ErrLong},
		{many + "attr b number\n", 18, api.ErrForm},
		{many + "attr b int", 18, api.ErrForm},
		{many + "\n", 18, api.ErrForm},
		{many + "attr b int\nx\n", 18, api.ErrLong},
		{strings.Repeat("x", api.MaxText), 1, api.ErrForm},
		{"version 1\n" + strings.Repeat(" ", api.MaxText-10), 2, api.ErrForm},
		{"version 1\nattr " + strings.Repeat("a", api.MaxText-20) + " int\n", 2, api.ErrName},
		{strings.Repeat("x", api.MaxText+1), 0, api.ErrLong},
		{"version 1\n" + strings.Repeat("\n", api.MaxText-9), 0, api.ErrLong},
	} {
		s, at, e := schema.Parse(x.text)
		if s != nil || at != x.at || e != x.want {
			t.Errorf("Parse %.80q: %v, %d, %d; not %d, %d", x.text, s, at, e, x.at, x.want)
		}
	}
}

var (
	versionForm = regexp.MustCompile(`^version (0|-?[1-9][0-9]*)$`)
	attrForm    = regexp.MustCompile(`^attr ([^ ]*) ([^ ]*)( must)?( own)?( hide)?( new)?$`)
)

// reread reads a text another way than the program does: by expressions, and all lines' forms ahead of all else.
func reread(s string) (*schema.Schema, int, api.Errno) {
	lines := strings.SplitAfter(s, "\n")
	if last := len(lines) - 1; lines[last] == "" && last > 0 {
		lines = lines[:last]
	}
	version := 0
	var l []schema.Attr
	bad := 0
	for i, line := range lines {
		whole, ended := strings.CutSuffix(line, "\n")
		ok := ended
		if i == 0 {
			m := versionForm.FindStringSubmatch(whole)
			if ok = ok && m != nil; ok {
				n, err := strconv.ParseInt(m[1], 10, 64)
				version, ok = int(n), err == nil
			}
		} else {
			m := attrForm.FindStringSubmatch(whole)
			if ok = ok && m != nil; ok {
				k, _, e := kind.Parse(m[2])
				ok = e == api.OK
				l = append(l, schema.Attr{Name: m[1], Type: k, Must: m[3] != "", Own: m[4] != "", Hide: m[5] != "", New: m[6] != ""})
			}
		}
		if !ok {
			bad = i + 1
			break
		}
	}
	for i := range lines {
		if i+1 == bad {
			return nil, bad, api.ErrForm
		}
		if s, e := schema.Make(version, l[:i]...); e != api.OK {
			return nil, i + 1, e
		} else if i == len(lines)-1 {
			return s, 0, api.OK
		}
	}
	return nil, 0, api.OK
}

// TestParseAgain changes texts in all places, and holds what is read of them against another reader.
func TestParseAgain(t *testing.T) {
	marks := []string{"", " ", "\n", "0", "1", "-", "a", "b", "A", ",", "?", "(", ")", "must", " own", " hide", " new", "attr ", "attr a0 int\n", "version 1\n", "\x00", "\xff"}
	read := 0
	for _, s := range []string{
		"version 10\n",
		"version 100\nattr a int\n",
		"version 1\nattr id text own\nattr size int must new\n",
		"version 0\nattr a {b?:int} hide new\nattr a0 list([]) own\nattr b any must hide new\n",
	} {
		for i := range len(s) + 1 {
			for j := i; j <= min(len(s), i+8); j++ {
				for _, m := range marks {
					x := s[:i] + m + s[j:]
					got, at, e := schema.Parse(x)
					want, wantAt, wantE := reread(x)
					if !schema.Same(got, want) || at != wantAt || e != wantE {
						t.Fatalf("Parse %q: %q, %d, %d; not %q, %d, %d", x, got.Print(), at, e, want.Print(), wantAt, wantE)
					}
					if e == api.OK && got.Print() != x {
						t.Fatalf("%q is read as %q", x, got.Print())
					}
					if e == api.OK {
						read++
					}
				}
			}
		}
	}
	if read < 100 {
		t.Errorf("%d texts were read", read)
	}
}
