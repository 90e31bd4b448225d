package schema

import (
	"slices"
	"strconv"
	"strings"

	"flange/api"
	"flange/kind"
)

// The words of a schema's text.
const (
	wordVersion = "version"
	wordAttr    = "attr"
	wordMust    = "must"
	wordOwn     = "own"
	wordHide    = "hide"
	wordNew     = "new"
)

// Print is a schema's text.
func (s *Schema) Print() string {
	if s == nil {
		return ""
	}
	var b strings.Builder
	b.WriteString(versionLine(s.version))
	b.WriteByte('\n')
	for _, a := range s.attrs {
		b.WriteString(a.line())
		b.WriteByte('\n')
	}
	return b.String()
}

// Parse is a text's schema; or the number of the first line that can't stand there.
func Parse(text string) (*Schema, int, api.Errno) {
	if len(text) > api.MaxText {
		return nil, 0, api.ErrLong
	}
	line, rest, ended := strings.Cut(text, "\n")
	version, ok := readVersion(line)
	if !ok || !ended {
		return nil, 1, api.ErrForm
	}
	var l []Attr
	s, e := Make(version)
	number := 1
	for e == api.OK && rest != "" {
		number++
		line, rest, ended = strings.Cut(rest, "\n")
		a, ok := readAttr(line)
		if !ok || !ended {
			return nil, number, api.ErrForm
		}
		l = append(l, a)
		s, e = Make(version, l...)
	}
	if e != api.OK {
		return nil, number, e
	}
	return s, 0, api.OK
}

func versionLine(n int) string {
	return wordVersion + " " + strconv.Itoa(n)
}

// line is an attribute's line.
func (a Attr) line() string {
	words := []string{wordAttr, a.Name, a.Type.Print()}
	mark := func(has bool, word string) {
		if has {
			words = append(words, word)
		}
	}
	mark(a.Must, wordMust)
	mark(a.Own, wordOwn)
	mark(a.Hide, wordHide)
	mark(a.New, wordNew)
	return strings.Join(words, " ")
}

// readVersion is the number that a first line tells, be it a version or not. It is held against the line that tells this number: there is no other one.
func readVersion(line string) (int, bool) {
	_, digits, _ := strings.Cut(line, " ")
	n, err := strconv.Atoi(digits)
	return n, err == nil && line == versionLine(n)
}

// readAttr is the attribute that a line tells, be it one that may be or not. It is held against the line that tells this attribute: there is no other one.
func readAttr(line string) (Attr, bool) {
	words := strings.Split(line, " ")
	if len(words) < 3 {
		return Attr{}, false
	}
	t, _, e := kind.Parse(words[2])
	if e != api.OK {
		return Attr{}, false
	}
	has := func(mark string) bool {
		return slices.Contains(words[3:], mark)
	}
	a := Attr{
		Name: strings.Clone(words[1]),
		Type: t,
		Must: has(wordMust),
		Own:  has(wordOwn),
		Hide: has(wordHide),
		New:  has(wordNew),
	}
	return a, line == a.line()
}
