package address_test

import (
	"math/rand"
	"regexp"
	"slices"
	"strconv"
	"strings"
	"testing"

	"flange/address"
	"flange/api"
)

// begins is the longest beginning of a text that more bytes might make an address's text, if an index might have zeros ahead.
var begins = func() *regexp.Regexp {
	const name = `[a-z][a-z0-9]{0,19}`
	s := `([0-9]{1,3})\]?`
	for _, ahead := range []string{`\[`, name, `\.`, name, `\.`, name} {
		s = ahead + `(?:` + s + `)?`
	}
	return regexp.MustCompile(`^(?:` + s + `)?`)
}()

// whole is an address's text.
var whole = regexp.MustCompile(`^([a-z][a-z0-9]{0,19})\.([a-z][a-z0-9]{0,19})\.([a-z][a-z0-9]{0,19})(?:\[(0|[1-9][0-9]{0,2})\])?\z`)

// judge tells what Parse must: the address, or where the fault is.
func judge(s string) (address.Address, int, bool) {
	if m := whole.FindStringSubmatch(s); m != nil {
		a := address.Address{Provider: m[1], Kind: m[2], Name: m[3], Index: -1}
		if m[4] != "" {
			a.Index, _ = strconv.Atoi(m[4])
		}
		return a, 0, true
	}
	m := begins.FindStringSubmatchIndex(s)
	at := m[1]
	if m[2] < 0 {
		return address.Address{}, at, false
	}
	digits, next := s[m[2]:m[3]], s[m[3]:min(m[3]+1, len(s))]
	if len(digits) > 1 && digits[0] == '0' && (next == "" || !strings.Contains("0123456789", next)) {
		at = m[2]
	}
	return address.Address{}, at, false
}

// wantJudged holds what Parse tells of a text against what it must; a text that is read is what is printed.
func wantJudged(t *testing.T, s string) {
	t.Helper()
	a, at, e := address.Parse(s)
	wantA, wantAt, ok := judge(s)
	if a != wantA || at != wantAt || (e == api.OK) != ok || !ok && e != api.ErrForm {
		t.Fatalf("Parse(%q): %v, %d, %d; not %v, %d, %t", s, a, at, e, wantA, wantAt, ok)
	}
	if ok && (!a.Right() || a.Print() != s) {
		t.Fatalf("Parse(%q): %v, which is %q, Right: %t", s, a, a.Print(), a.Right())
	}
}

// TestShort reads all short texts of few bytes.
func TestShort(t *testing.T) {
	const bytes = "az.09[]A"
	var all func(s string, more int)
	all = func(s string, more int) {
		wantJudged(t, s)
		for i := range len(bytes) {
			if more > 0 {
				all(s+bytes[i:i+1], more-1)
			}
		}
	}
	all("", 6)
	all("a.b.", 5)
	all("a.b.c[", 5)
	all("a.b."+twenty[1:], 3)
	all(twenty, 3)
}

// TestEdited reads addresses' texts, cut, and with each byte changed to every other one, laid in, or taken out.
func TestEdited(t *testing.T) {
	for _, s := range []string{"p.vm.a", "aws.vm.web[2]", "a.b.c[0]", "a.b.c[10]", "a1.b2.c3[999]", twenty + "." + twenty + "." + twenty + "[123]", "a." + twenty + ".c[01]"} {
		for i := range len(s) + 1 {
			wantJudged(t, s[:i])
			wantJudged(t, s[i:])
			if i < len(s) {
				wantJudged(t, s[:i]+s[i+1:])
			}
			for c := range 256 {
				b := string([]byte{byte(c)})
				wantJudged(t, s[:i]+b+s[i:])
				if i < len(s) {
					wantJudged(t, s[:i]+b+s[i+1:])
				}
			}
		}
	}
}

// random is an address, perhaps one that isn't right.
func random(r *rand.Rand) address.Address {
	names := []string{"a", "b", "a0", "aa", "a9", "b1c", twenty, "", "A", "a.", twenty + "a", "z[1]"}
	most := 7
	if r.Intn(4) == 0 {
		most = len(names)
	}
	return address.Address{Provider: names[r.Intn(most)], Kind: names[r.Intn(most)], Name: names[r.Intn(most)], Index: []int{-1, 0, 1, 9, 10, 100, 999, r.Intn(1010) - 5}[r.Intn(8)]}
}

// TestPrinted: what is printed is read; nothing else is printed but of right ones.
func TestPrinted(t *testing.T) {
	r := rand.New(rand.NewSource(1))
	wrongs := 0
	for range 200000 {
		a := random(r)
		s := a.Print()
		if a.Right() != (s != "") {
			t.Fatalf("Print of %v: %q, Right: %t", a, s, a.Right())
		}
		if s == "" {
			wrongs++
			continue
		}
		if b, at, e := address.Parse(s); b != a || at != 0 || e != api.OK {
			t.Fatalf("Parse(%q): %v, %d, %d", s, b, at, e)
		}
	}
	if wrongs < 1000 || wrongs > 100000 {
		t.Errorf("%d aren't right", wrongs)
	}
}

// key is a text by which addresses stand in their order: names are ended by a byte below all others, and indices are as long as one another.
func key(a address.Address) string {
	return a.Provider + "\x00" + a.Kind + "\x00" + a.Name + "\x00" + strconv.Itoa(5000+a.Index)
}

// TestSorted holds Sort and Compare against the order of keys.
func TestSorted(t *testing.T) {
	r := rand.New(rand.NewSource(2))
	for range 5000 {
		var l []address.Address
		keys := make(map[string]address.Address)
		for range r.Intn(30) {
			a := random(r)
			l = append(l, a)
			keys[key(a)] = a
		}
		was := slices.Clone(l)
		got := address.Sort(l...)
		if !slices.Equal(l, was) {
			t.Fatal("Sort changed what was handed in")
		}
		var order []string
		for k := range keys {
			order = append(order, k)
		}
		slices.Sort(order)
		if len(got) != len(order) {
			t.Fatalf("Sort of %v: %v", l, got)
		}
		for i, k := range order {
			if got[i] != keys[k] {
				t.Fatalf("Sort of %v: %v", l, got)
			}
		}
		for i := 1; i < len(l); i++ {
			if got, want := address.Compare(l[i-1], l[i]), strings.Compare(key(l[i-1]), key(l[i])); got != want {
				t.Fatalf("Compare(%v, %v): %d, not %d", l[i-1], l[i], got, want)
			}
		}
	}
}

// matches tells by a regular expression whether a pattern is an address's.
func matches(pattern string, a address.Address) bool {
	one := func(name string) string { return `(?:\*|` + regexp.QuoteMeta(name) + `)` }
	return a.Right() && regexp.MustCompile(`^`+one(a.Provider)+`(?:\.`+one(a.Kind)+`(?:\.`+one(a.Name)+`)?)?\z`).MatchString(pattern)
}

// TestMatched holds Match against the regular expression, of all short patterns.
func TestMatched(t *testing.T) {
	words := []string{"", "*", "a", "b", "aa", "a*", "**", "A", "c[1]"}
	var all func(p string, more int)
	for _, a := range []address.Address{{"a", "b", "aa", -1}, {"a", "a", "a", 1}, {"b", "b", "a", 999}, {"a", "b", "A", 1}, {"a", "b", "aa", 1000}} {
		is := 0
		all = func(p string, more int) {
			got := address.Match(p, a)
			if want := matches(p, a); got != want {
				t.Fatalf("Match(%q, %v): %t", p, a, got)
			}
			if got {
				is++
			}
			for _, w := range words {
				if more > 0 {
					all(p+"."+w, more-1)
				}
			}
		}
		for _, w := range words {
			all(w, 3)
		}
		if want := map[bool]int{true: 2 + 4 + 8}[a.Right()]; is != want {
			t.Errorf("%d patterns match %v, not %d", is, a, want)
		}
	}
}
