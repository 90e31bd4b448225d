package address_test

import (
	"math"
	"slices"
	"strconv"
	"strings"
	"testing"

	"flange/address"
	"flange/api"
)

// twenty is a name that is as long as one may be.
const twenty = "a1234567890123456789"

// wrong is addresses that aren't right.
var wrong = []address.Address{
	{},
	{Index: -1},
	{"", "vm", "a", -1}, {"p", "", "a", -1}, {"p", "vm", "", -1},
	{"P", "vm", "a", -1}, {"p", "vM", "a", -1}, {"p", "vm", "a_b", -1},
	{"1p", "vm", "a", -1}, {"p", "2", "a", -1}, {"p", "vm", "0a", -1},
	{"p.vm", "a", "b", -1}, {"p", "vm.a", "b", -1}, {"p", "vm", "a[2]", -1}, {"p", "vm", "a.", -1}, {"*", "vm", "a", -1}, {"p", "*", "a", -1},
	{"p ", "vm", "a", -1}, {"p", " vm", "a", -1}, {"p", "vm", "a\x00", -1}, {"p", "vm", "\u00e9", -1}, {"p", "vm", "a\xff", -1}, {"p\n", "vm", "a", -1},
	{twenty + "a", "vm", "a", -1}, {"p", twenty + "1", "a", -1}, {"p", "vm", twenty + twenty, -1},
	{"p", "vm", "a", -2}, {"p", "vm", "a", 1000}, {"p", "vm", "a", math.MinInt}, {"p", "vm", "a", math.MaxInt},
	{"", "", "", 5}, {"P", "", twenty + "a", -2},
}

func TestText(t *testing.T) {
	for s, a := range map[string]address.Address{
		"aws.vm.web[2]":                      {"aws", "vm", "web", 2},
		"p.vm.a":                             {"p", "vm", "a", -1},
		"p.vm.a[0]":                          {"p", "vm", "a", 0},
		"p.vm.a[9]":                          {"p", "vm", "a", 9},
		"p.vm.a[10]":                         {"p", "vm", "a", 10},
		"p.vm.a[100]":                        {"p", "vm", "a", 100},
		"p.vm.a[999]":                        {"p", "vm", "a", 999},
		"a.a.a":                              {"a", "a", "a", -1},
		"z9.y0x.w1[101]":                     {"z9", "y0x", "w1", 101},
		twenty + "." + twenty + "." + twenty: {twenty, twenty, twenty, -1},
		twenty + "." + twenty + "." + twenty + "[99]": {twenty, twenty, twenty, 99},
	} {
		wantRead(t, s, a)
		if got := a.Print(); got != s || !a.Right() {
			t.Errorf("Print of %v: %q, not %q; Right: %t", a, got, s, a.Right())
		}
	}
}

// wantRead holds the address that a text is of.
func wantRead(t *testing.T, s string, want address.Address) {
	t.Helper()
	if a, at, e := address.Parse(s); a != want || at != 0 || e != api.OK {
		t.Errorf("Parse(%q): %v, %d, %d; not %v", s, a, at, e, want)
	}
}

func TestWrong(t *testing.T) {
	for _, a := range wrong {
		if a.Right() {
			t.Errorf("Right of %v: true", a)
		}
		if s := a.Print(); s != "" {
			t.Errorf("Print of %v: %q", a, s)
		}
		for _, p := range []string{"", "*", "*.*.*", a.Provider, a.Provider + "." + a.Kind + "." + a.Name} {
			if address.Match(p, a) {
				t.Errorf("Match(%q, %v): true", p, a)
			}
		}
	}
}

func TestParseFaults(t *testing.T) {
	for _, c := range []struct {
		s  string
		at int
	}{
		// It ends too early.
		{"", 0}, {"p", 1}, {"p.", 2}, {"p.vm", 4}, {"p.vm.", 5}, {"p.vm.a[", 7}, {"p.vm.a[1", 8}, {"p.vm.a[0", 8}, {"p.vm.a[999", 10}, {twenty, 20}, {twenty + ".", 21},
		// A byte that can't stand there.
		{".", 0}, {"..", 0}, {".p.vm.a", 0}, {"p..a", 2}, {"p.vm..", 5}, {"p.vm.a.", 6}, {"p.vm.a.b", 6}, {"p.vm.a ", 6}, {"p.vm.a\n", 6}, {" p.vm.a", 0}, {"p .vm.a", 1}, {"p. vm.a", 2},
		{"P.vm.a", 0}, {"pP.vm.a", 1}, {"p.VM.a", 2}, {"p.vM.a", 3}, {"p.vm.A", 5}, {"p.vm.aA", 6}, {"1.vm.a", 0}, {"p.1.a", 2}, {"p.vm.1", 5}, {"p1_.vm.a", 2}, {"p-q.vm.a", 1}, {"*.vm.a", 0}, {"p.*.a", 2}, {"p.vm.*", 5},
		{"\x00", 0}, {"p\x00vm.a", 1}, {"p.vm.\u00e9", 5}, {"p.vm.a\u00e9", 6}, {"p.vm.a\xff", 6}, {"\xff.vm.a", 0}, {"p,vm.a", 1}, {"p/vm/a", 1},
		{"[", 0}, {"p[", 1}, {"p[1].vm.a", 1}, {"p.[1].a", 2}, {"p.vm[1].a", 4}, {"p.vm[1]", 4}, {"p.vm.[1]", 5}, {"p.vm.]", 5}, {"p.vm.a]", 6}, {"p.vm.a1]", 7}, {"p.vm.a(1)", 6},
		{"p.vm.a[]", 7}, {"p.vm.a[a]", 7}, {"p.vm.a[ 1]", 7}, {"p.vm.a[-1]", 7}, {"p.vm.a[+1]", 7}, {"p.vm.a[-]", 7}, {"p.vm.a[.]", 7}, {"p.vm.a[[1]]", 7}, {"p.vm.a[*]", 7}, {"p.vm.a[\u0661]", 7},
		{"p.vm.a[1 ]", 8}, {"p.vm.a[1x", 8}, {"p.vm.a[1a]", 8}, {"p.vm.a[0x1]", 8}, {"p.vm.a[1_0]", 8}, {"p.vm.a[1.0]", 8}, {"p.vm.a[1)", 8}, {"p.vm.a[1[", 8}, {"p.vm.a[12,3]", 9}, {"p.vm.a[999a]", 10},
		{"p.vm.a[1]x", 9}, {"p.vm.a[1]]", 9}, {"p.vm.a[1] ", 9}, {"p.vm.a[1].", 9}, {"p.vm.a[1][2]", 9}, {"p.vm.a[1]\x00", 9}, {"p.vm.a[999]9", 11},
		// A name that is too long: the first byte too many.
		{twenty + "a", 20}, {twenty + "1", 20}, {twenty + "a.vm.a", 20}, {"p." + twenty + "a.a", 22}, {"p.vm." + twenty + "a", 25}, {"p.vm." + twenty + "9[1]", 25}, {twenty + twenty + "!", 20}, {twenty + "aA", 20}, {twenty + "A", 20}, {twenty + ".." + twenty + "a", 21},
		{strings.Repeat("a", 1<<20), 20}, {"p.vm." + strings.Repeat("1", 1<<20), 5}, {"p.vm.a" + strings.Repeat("1", 1<<20), 25},
		// A number that is too long: likewise, whatever else is wrong with it.
		{"p.vm.a[1000]", 10}, {"p.vm.a[1000", 10}, {"p.vm.a[1000x", 10}, {"p.vm.a[9999]", 10}, {"p.vm.a[10000]", 10}, {"p.vm.a[0000]", 10}, {"p.vm.a[0001]", 10}, {"p.vm.a[0100]", 10}, {"p.vm.a[0999", 10}, {"p.vm.a[00000000001]", 10}, {"p.vm.a[18446744073709551617]", 10}, {"p.vm.a[" + strings.Repeat("0", 1<<20), 10}, {"p.vm.a[" + strings.Repeat("7", 1<<20) + "]", 10},
		// A number that is told otherwise: where it begins.
		{"p.vm.a[01]", 7}, {"p.vm.a[00]", 7}, {"p.vm.a[000]", 7}, {"p.vm.a[001]", 7}, {"p.vm.a[010]", 7}, {"p.vm.a[099]", 7}, {"p.vm.a[09]", 7}, {"p.vm.a[01", 7}, {"p.vm.a[01x", 7}, {"p.vm.a[00[", 7}, {"p.vm.a[010 ]", 7}, {"p.vm.a[01]x", 7}, {"aws.vm.web[02]", 11},
	} {
		if a, at, e := address.Parse(c.s); a != (address.Address{}) || at != c.at || e != api.ErrForm {
			t.Errorf("Parse(%.60q): %v, %d, %d; not %d", c.s, a, at, e, c.at)
		}
		if _, at, ok := judge(c.s); at != c.at || ok {
			t.Errorf("judge(%.60q): %d, %t; not %d", c.s, at, ok, c.at)
		}
	}
}

// TestIndex reads and prints all indices.
func TestIndex(t *testing.T) {
	for i := range 1000 {
		a := address.Address{Provider: "p", Kind: "vm", Name: "a", Index: i}
		s := "p.vm.a[" + strconv.Itoa(i) + "]"
		if got := a.Print(); got != s || !a.Right() {
			t.Errorf("Print of %v: %q, Right: %t", a, got, a.Right())
		}
		wantRead(t, s, a)
	}
}

// rising is addresses in their order, of those that aren't right, too.
func rising() []address.Address {
	return []address.Address{
		{"", "", "", math.MinInt}, {"", "", "", -1}, {"", "", "", 0}, {"", "", "a", 0}, {"", "z", "", 0},
		{"A", "b", "c", 0},
		{"a", "", "", 7}, {"a", "a", "a", -2}, {"a", "a", "a", -1}, {"a", "a", "a", 0}, {"a", "a", "a", 2}, {"a", "a", "a", 10}, {"a", "a", "a", 999}, {"a", "a", "a", 1000}, {"a", "a", "a", math.MaxInt},
		// A longer name comes behind one that it begins with, whatever byte stands behind that in the text.
		{"a", "a", "a\x00", -1}, {"a", "a", "a.", -1}, {"a", "a", "a0", -1}, {"a", "a", "a0", 5}, {"a", "a", "aa", -1}, {"a", "a", "b", -1},
		{"a", "a1", "a", -1}, {"a", "b", "a", -1}, {"a", "b", "a", 3},
		{"a\x00", "a", "a", -1}, {"a0", "a", "a", -1}, {"a10", "a", "a", -1}, {"a9", "a", "a", -1}, {"aa", "a", "a", -1},
		{"b", "", "", 0}, {"b", "a", "a", -1}, {"z", "a", "a", -1}, {"\u00e9", "a", "a", -1}, {"\xff", "a", "a", -1},
	}
}

func TestCompare(t *testing.T) {
	l := rising()
	for i, a := range l {
		for j, b := range l {
			want := 0
			if i < j {
				want = -1
			}
			if i > j {
				want = 1
			}
			if got := address.Compare(a, b); got != want {
				t.Errorf("Compare(%v, %v): %d, not %d", a, b, got, want)
			}
		}
	}
}

func TestMatch(t *testing.T) {
	a := address.Address{Provider: "p", Kind: "vm", Name: "web", Index: 2}
	for pattern, want := range map[string]bool{
		"p": true, "*": true, "p.vm": true, "p.*": true, "*.vm": true, "*.*": true, "p.vm.web": true, "p.vm.*": true, "p.*.web": true, "*.vm.web": true, "p.*.*": true, "*.vm.*": true, "*.*.web": true, "*.*.*": true,
		"q": false, "vm": false, "web": false, "p.web": false, "q.vm.web": false, "p.q.web": false, "p.vm.q": false, "q.*.*": false, "*.q": false, "*.*.q": false,
		// No words of an address's.
		"": false, ".": false, "..": false, "...": false, "p.": false, ".vm": false, "p..web": false, "p.vm.": false, "*.": false, ".*": false, "*..*": false, "*.*.": false,
		// Too many.
		"p.vm.web.": false, "p.vm.web.*": false, "*.*.*.*": false, "*.*.*.": false, "p.vm.web.2": false, "p.vm.web.web": false,
		// The index is none of the words.
		"p.vm.web[2]": false, "p.vm.*[2]": false, "*[2]": false, "2": false, "[2]": false,
		// A word is the same, or *, but nothing in between.
		"p*": false, "*p": false, "**": false, "p.v*": false, "p.?m": false, "P": false, "p ": false, " p": false, "p.vm.we": false, "p.vm.webx": false, "p.vm.web\n": false, "p\x00": false, "p,vm": false,
	} {
		for _, i := range []int{-1, 0, 2, 999} {
			a.Index = i
			if got := address.Match(pattern, a); got != want {
				t.Errorf("Match(%q, %v): %t", pattern, a, got)
			}
		}
	}
	for _, pattern := range []string{strings.Repeat(".", 1<<20), strings.Repeat("*.", 1<<20), strings.Repeat("*", 1<<20)} {
		if address.Match(pattern, a) {
			t.Errorf("Match(%.20q): true", pattern)
		}
	}
	long := address.Address{Provider: twenty, Kind: twenty, Name: twenty, Index: -1}
	if !address.Match(long.Print(), long) || address.Match(twenty+"a", long) {
		t.Error("Match of long names")
	}
}

func TestSort(t *testing.T) {
	if l := address.Sort(); len(l) != 0 {
		t.Errorf("Sort of none: %v", l)
	}
	if l := address.Sort([]address.Address{}...); len(l) != 0 {
		t.Errorf("Sort of none: %v", l)
	}
	want := rising()
	turned := slices.Clone(want)
	slices.Reverse(turned)
	for _, l := range [][]address.Address{want, turned, append(turned, want...), append(append(want, turned...), turned...)} {
		if got := address.Sort(l...); !slices.Equal(got, want) {
			t.Errorf("Sort of %d: %v", len(l), got)
		}
	}
	a := address.Address{Provider: "p", Kind: "vm", Name: "a", Index: -1}
	if l := address.Sort(a, a, a); !slices.Equal(l, []address.Address{a}) {
		t.Errorf("Sort of one: %v", l)
	}
}

// TestSortMemory: what is handed in stays as it is, its spare room too, and what is answered is new memory.
func TestSortMemory(t *testing.T) {
	a, b, c := address.Address{Provider: "a"}, address.Address{Provider: "b"}, address.Address{Provider: "c"}
	whole := []address.Address{c, b, a, b, c, a, b}
	was := slices.Clone(whole)
	for n := range len(whole) + 1 {
		got := address.Sort(whole[:n]...)
		if !slices.Equal(whole, was) {
			t.Fatalf("Sort of %d changed what was handed in: %v", n, whole)
		}
		clear(got[:cap(got)])
		if !slices.Equal(whole, was) {
			t.Fatalf("Sort of %d answered what was handed in", n)
		}
	}
	// One that is as it should be already, too.
	l := []address.Address{a, b, c}
	clear(address.Sort(l...))
	if !slices.Equal(l, []address.Address{a, b, c}) {
		t.Errorf("Sort answered what was handed in: %v", l)
	}
}
