package mark_test

import (
	"math/rand"
	"slices"
	"strings"
	"testing"

	"flange/api"
	"flange/mark"
	"flange/text"
	"flange/value"
)

// cleanModel is a text without secrets, as the document's words say it.
func cleanModel(s string, secrets []string) string {
	out := ""
	for len(s) > 0 {
		longest := 0
		for _, x := range secrets {
			if len(x) >= 4 && strings.HasPrefix(s, x) {
				longest = max(longest, len(x))
			}
		}
		if longest > 0 {
			out, s = out+"***", s[longest:]
		} else {
			out, s = out+s[:1], s[1:]
		}
	}
	return out
}

func leaksModel(s string, secrets []string) bool {
	return slices.ContainsFunc(secrets, func(x string) bool { return len(x) >= 4 && strings.Contains(s, x) })
}

// mayLeak tells whether what is cleaned of these may leak them: what is put in may be a part of one.
func mayLeak(secrets []string) bool {
	return slices.ContainsFunc(secrets, func(x string) bool {
		return strings.Contains(x, "***") || strings.HasPrefix(x, "*") || strings.HasSuffix(x, "*")
	})
}

// word is so many bytes at most, of few.
func word(r *rand.Rand, bytes string, most int) string {
	b := make([]byte, r.Intn(most+1))
	for i := range b {
		b[i] = bytes[r.Intn(len(bytes))]
	}
	return string(b)
}

// TestCleanModel holds very many texts and secrets, that overlap one another, against the model.
func TestCleanModel(t *testing.T) {
	r := rand.New(rand.NewSource(1))
	cleaned, safe := 0, 0
	for range 200000 {
		bytes := []string{"ab", "a", "abc", "a*", "ab*"}[r.Intn(5)]
		s := word(r, bytes, 30)
		secrets := make([]string, r.Intn(6))
		for i := range secrets {
			secrets[i] = word(r, bytes, 8)
			if from := r.Intn(len(s) + 1); r.Intn(2) > 0 {
				secrets[i] = s[from : from+r.Intn(len(s)-from+1)]
			}
		}
		got := mark.Clean(s, secrets...)
		if got != cleanModel(s, secrets) {
			t.Fatalf("Clean %q, %q: %q; not %q", s, secrets, got, cleanModel(s, secrets))
		}
		for _, x := range []string{s, got} {
			if leaks := mark.Leaks(x, secrets...); leaks != leaksModel(x, secrets) {
				t.Fatalf("Leaks %q, %q: %t", x, secrets, leaks)
			}
		}
		if got != s {
			cleaned++
		}
		if got != s && !mayLeak(secrets) {
			safe++
			if mark.Leaks(got, secrets...) {
				t.Fatalf("%q of %q leaks %q", got, s, secrets)
			}
		}
	}
	if cleaned < 10000 || safe < 10000 {
		t.Errorf("%d are cleaned, %d of them safe", cleaned, safe)
	}
}

// some is a small value by chance, with Unknowns and Texts; parts of it may stand in several places.
func some(r *rand.Rand, deep int) value.Value {
	n := r.Intn(6)
	switch {
	case n == 0:
		return value.Later()
	case n == 1:
		return value.Text(strings.Repeat(string(rune('a'+r.Intn(3))), 3+r.Intn(3)))
	case n == 2 || deep == 0:
		return value.Int(r.Intn(2))
	}
	items := make([]value.Value, r.Intn(4))
	for i := range items {
		items[i] = some(r, deep-1)
		if i > 0 && r.Intn(4) == 0 {
			items[i] = items[i-1]
		}
	}
	if n == 3 {
		return value.List(items...)
	}
	m, _ := value.Map([]string{"", "a", "b"}[:len(items)], items)
	return m
}

// each goes through all values in one, in order, with the ways there.
func each(v value.Value, way []value.Step, f func([]value.Step, value.Value)) {
	f(way, v)
	for i, x := range v.Items() {
		s := value.Step{At: i}
		if v.Kind() == value.KindMap {
			s = value.Step{Key: v.Keys()[i], At: -1}
		}
		each(x, append(slices.Clone(way), s), f)
	}
}

// TestUnknownModel holds the ways to Unknowns, and what is filled in there, against plain ones.
func TestUnknownModel(t *testing.T) {
	r := rand.New(rand.NewSource(2))
	several := 0
	for range 50000 {
		v, known := some(r, 4), some(r, 4)
		if r.Intn(2) > 0 {
			known = mark.Fill(v, known)
		}
		var ways [][]value.Step
		filled := v
		each(v, nil, func(way []value.Step, x value.Value) {
			if x.Kind() != value.KindUnknown {
				return
			}
			ways = append(ways, way)
			if y, e := known.Go(way...); e == api.OK {
				filled, _ = filled.With(y, way...)
			}
		})
		if got := mark.Unknown(v); !slices.EqualFunc(got, ways, slices.Equal[[]value.Step]) {
			t.Fatalf("Unknown %s: %v", text.Write(v), got)
		}
		if got := mark.Fill(v, known); !value.Same(got, filled) {
			t.Fatalf("Fill %s, %s: %s; not %s", text.Write(v), text.Write(known), text.Write(got), text.Write(filled))
		}
		if len(ways) > 1 {
			several++
		}
	}
	if several < 1000 {
		t.Errorf("%d have several Unknowns", several)
	}
}

// TestSecretsModel holds secrets, and what is redacted, against plain ones.
func TestSecretsModel(t *testing.T) {
	r := rand.New(rand.NewSource(3))
	several := 0
	for range 20000 {
		marks := []string{"", " hide"}
		hide := []int{r.Intn(2), r.Intn(2), r.Intn(2)}
		s := parse(t, "version 1\nattr a any"+marks[hide[0]]+"\nattr b any own"+marks[hide[1]]+"\nattr c any"+marks[hide[2]]+"\n")
		v, _ := value.Map([]string{"a", "aa", "b", "c"}, []value.Value{some(r, 3), some(r, 3), some(r, 3), some(r, 3)})
		var want []string
		redacted := v
		for i, name := range []string{"a", "b", "c"} {
			x, _ := v.At(name)
			if hide[i] == 0 {
				continue
			}
			redacted, _ = redacted.With(value.Text("***"), value.Step{Key: name, At: -1})
			each(x, nil, func(_ []value.Step, x value.Value) {
				if s, ok := x.Text(); ok && len(s) >= 4 && !slices.Contains(want, s) {
					want = append(want, s)
				}
			})
		}
		if got := mark.Secrets(s, v); !slices.Equal(got, want) {
			t.Fatalf("Secrets %s by %q: %q", text.Write(v), s.Print(), got)
		}
		got := mark.Redact(s, v)
		if !value.Same(got, redacted) {
			t.Fatalf("Redact %s by %q: %s", text.Write(v), s.Print(), text.Write(got))
		}
		if l := mark.Secrets(s, got); len(l) != 0 {
			t.Fatalf("secrets of what is redacted: %q", l)
		}
		if len(want) > 1 {
			several++
		}
	}
	if several < 1000 {
		t.Errorf("%d have several secrets", several)
	}
}
