package kind_test

import (
	"strings"
	"testing"

	"flange/api"
	"flange/kind"
)

// within is a text, so many times within itself.
func within(open, inner, end string, n int) string {
	return strings.Repeat(open, n) + inner + strings.Repeat(end, n)
}

// names is so many names, rising, each with this behind it, commas between.
func names(n int, behind string) string {
	var l []string
	for i := range n {
		l = append(l, string(rune('a'+i))+behind)
	}
	return strings.Join(l, ",")
}

func TestParseFaults(t *testing.T) {
	long := strings.Repeat("a", 20)
	types16 := strings.TrimSuffix(strings.Repeat("int,", 16), ",")
	for _, x := range []struct {
		s  string
		at int
		e  api.Errno
	}{
		{"", 0, api.ErrForm}, {" ", 0, api.ErrForm}, {"x", 0, api.ErrForm}, {"Any", 0, api.ErrForm}, {")", 0, api.ErrForm}, {",", 0, api.ErrForm}, {"\x00", 0, api.ErrForm},
		{"a", 1, api.ErrForm}, {"an", 2, api.ErrForm}, {"ant", 2, api.ErrForm}, {"anyx", 3, api.ErrForm}, {"any ", 3, api.ErrForm}, {"any\x00", 3, api.ErrForm}, {"any,any", 3, api.ErrForm},
		{"boo", 3, api.ErrForm}, {"in", 2, api.ErrForm}, {"inte", 2 + 1, api.ErrForm}, {"poin", 4, api.ErrForm}, {"tex", 3, api.ErrForm}, {"null", 0, api.ErrForm}, {"intint", 3, api.ErrForm},
		{"lis(int)", 3, api.ErrForm}, {"list", 4, api.ErrForm}, {"list(", 5, api.ErrForm}, {"list()", 5, api.ErrForm}, {"list(int", 8, api.ErrForm}, {"list(int,int)", 8, api.ErrForm}, {"list(int]", 8, api.ErrForm}, {"list[int]", 4, api.ErrForm}, {"listint", 4, api.ErrForm}, {"list(int))", 9, api.ErrForm},
		{"map", 3, api.ErrForm}, {"map(", 4, api.ErrForm}, {"map()", 4, api.ErrForm}, {"map(int}", 7, api.ErrForm}, {"map{int}", 3, api.ErrForm}, {"ma(int)", 2, api.ErrForm},
		{"[", 1, api.ErrForm}, {"[,]", 1, api.ErrForm}, {"[int", 4, api.ErrForm}, {"[int,", 5, api.ErrForm}, {"[int,]", 5, api.ErrForm}, {"[int int]", 4, api.ErrForm}, {"[int)", 4, api.ErrForm}, {"[]]", 2, api.ErrForm}, {"[}", 1, api.ErrForm}, {"[a:int]", 2, api.ErrForm}, {"]", 0, api.ErrForm},
		{"{", 1, api.ErrForm}, {"{,}", 1, api.ErrForm}, {"{a", 2, api.ErrForm}, {"{a}", 2, api.ErrForm}, {"{a:", 3, api.ErrForm}, {"{a:}", 3, api.ErrForm}, {"{a?", 3, api.ErrForm}, {"{a?int}", 3, api.ErrForm}, {"{a??:int}", 3, api.ErrForm}, {"{a:?int}", 3, api.ErrForm}, {"{a:int", 6, api.ErrForm}, {"{a:int,", 7, api.ErrForm}, {"{a:int,}", 7, api.ErrForm}, {"{a:int]", 6, api.ErrForm}, {"{}}", 2, api.ErrForm}, {"{]", 1, api.ErrForm},
		{"{A:int}", 1, api.ErrForm}, {"{1:int}", 1, api.ErrForm}, {"{aA:int}", 2, api.ErrForm}, {"{a_:int}", 2, api.ErrForm}, {"{?:int}", 1, api.ErrForm}, {"{:int}", 1, api.ErrForm}, {"{a :int}", 2, api.ErrForm}, {"{\"a\":int}", 1, api.ErrForm}, {"{int}", 4, api.ErrForm}, {"}", 0, api.ErrForm},
		// Names that don't rise.
		{"{b:int,a:int}", 7, api.ErrForm}, {"{a:int,a:int}", 7, api.ErrTwice}, {"{a?:int,a:int}", 8, api.ErrTwice}, {"{a:int,a?:int}", 7, api.ErrTwice}, {"{b:int,c:int,b:int}", 13, api.ErrForm}, {"{ab:int,a:int}", 8, api.ErrForm}, {"{aa:int,a1:int}", 8, api.ErrForm}, {"{a:{b:int,b:int}}", 10, api.ErrTwice}, {"[int,{b:int,a:int}]", 12, api.ErrForm},
		{"{b:int,a", 7, api.ErrForm}, {"{a:int,a", 7, api.ErrTwice}, {"{a:int,a!", 7, api.ErrTwice}, {"{a:int,a:!", 7, api.ErrTwice}, {"{a:!,a:int}", 3, api.ErrForm}, {"{a:int,b", 8, api.ErrForm},
		// Names that are too long.
		{"{" + long + "a:int}", 1, api.ErrName}, {"{" + long + "1?:int}", 1, api.ErrName}, {"{" + long + "a", 1, api.ErrName}, {"{" + long + "a!", 1, api.ErrName}, {"{" + long + "A", 21, api.ErrForm}, {"{" + long, 21, api.ErrForm}, {"{a:int," + long + long + ":int}", 7, api.ErrName}, {"{b:int," + long + "a:int}", 7, api.ErrName}, {"{" + long + ":int," + long + "a:int}", 26, api.ErrName}, {"{" + long + ":int," + long + ":int}", 26, api.ErrTwice},
		{"{" + strings.Repeat("a", 4000), 1, api.ErrName},
		// Types that are too deep.
		{within("list(", "int", ")", 8), 40, api.ErrLong}, {within("map(", "int", ")", 8), 32, api.ErrLong}, {within("[", "int", "]", 8), 8, api.ErrLong}, {within("{a:", "int", "}", 8), 24, api.ErrLong}, {within("{a?:", "[]", "}", 8), 32, api.ErrLong}, {within("[", "[]", "]", 8), 8, api.ErrLong}, {within("[", "{}", "]", 8), 8, api.ErrLong}, {strings.Repeat("list(", 100), 40, api.ErrLong}, {strings.Repeat("[", 9), 8, api.ErrLong}, {strings.Repeat("[", 4096), 8, api.ErrLong},
		{"[int," + within("list(", "int", ")", 7) + "]", 40, api.ErrLong}, {within("list(", "ix", ")", 8), 40, api.ErrLong}, {"{a:int,b:" + within("[", "int", "]", 7) + "}", 16, api.ErrLong},
		// What can't begin a type there isn't one that is too deep.
		{strings.Repeat("list(", 8), 40, api.ErrForm}, {within("list(", "", ")", 8), 40, api.ErrForm}, {strings.Repeat("[", 8), 8, api.ErrForm}, {strings.Repeat("[", 8) + ",", 8, api.ErrForm}, {within("{a:", "", "}", 8), 24, api.ErrForm},
		// Types that are too many.
		{"[" + types16 + ",int]", 65, api.ErrLong}, {"[" + types16 + ",int,int]", 65, api.ErrLong}, {"[" + types16 + ",inx", 65, api.ErrLong}, {"[" + types16 + ",[", 65, api.ErrLong}, {"[[" + types16 + ",int]]", 66, api.ErrLong},
		{"{" + names(17, ":int") + "}", 97, api.ErrLong}, {"{" + names(16, "?:[]") + ",a:int}", 97, api.ErrLong}, {"{" + names(16, ":int") + ",p:int}", 97, api.ErrLong}, {"{" + names(16, ":int") + "," + long + "a:int}", 97, api.ErrLong}, {"{" + names(16, ":int") + ",z!", 97, api.ErrLong},
		{"[" + types16 + ",", 65, api.ErrForm}, {"[" + types16 + ",]", 65, api.ErrForm}, {"[" + types16, 64, api.ErrForm}, {"{" + names(16, ":int") + ",", 97, api.ErrForm}, {"{" + names(16, ":int") + ",}", 97, api.ErrForm}, {"{" + names(16, ":int") + ",1:int}", 97, api.ErrForm},
		// Of several the first one.
		{"[inx,{b:int,a:int}]", 3, api.ErrForm}, {"[{b:int,a:int},inx]", 8, api.ErrForm}, {"[{a:int,a:int},inx]", 8, api.ErrTwice}, {"[{" + long + "a:int},inx]", 2, api.ErrName}, {"[" + within("[", "int", "]", 8) + ",inx]", 8, api.ErrLong},
	} {
		k, at, e := kind.Parse(x.s)
		if k != nil || at != x.at || e != x.e {
			t.Errorf("Parse(%.120s): %d, %d, not %d, %d", x.s, at, e, x.at, x.e)
		}
		if at, e := judge(x.s); at != x.at || e != x.e {
			t.Errorf("judge(%.120s): %d, %d, not %d, %d", x.s, at, e, x.at, x.e)
		}
	}
}

// wide is a type of 16 objects of 16 names each, which have so many bytes beyond one each.
func wide(more int) string {
	var parts []string
	for range 16 {
		var l []string
		for i := range 16 {
			n := min(more, 19)
			more -= n
			l = append(l, string(rune('a'+i))+strings.Repeat("0", n)+":any")
		}
		parts = append(parts, "{"+strings.Join(l, ",")+"}")
	}
	return "[" + strings.Join(parts, ",") + "]"
}

func TestParseLong(t *testing.T) {
	most := 4096 - len(wide(0))
	for more := most - 2; more <= most; more++ {
		s := wide(more)
		if got := typeOf(t, s).Print(); got != s {
			t.Errorf("Print of %d bytes is another", len(s))
		}
	}
	for _, s := range []string{wide(most + 1), strings.Repeat("x", 4097), strings.Repeat("[", 5000), "int" + strings.Repeat(" ", 1<<20)} {
		if k, at, e := kind.Parse(s); k != nil || at != 0 || e != api.ErrLong {
			t.Errorf("Parse of %d bytes: %d, %d", len(s), at, e)
		}
	}
	if k, at, e := kind.Parse(strings.Repeat("x", 4096)); k != nil || at != 0 || e != api.ErrForm {
		t.Errorf("Parse of 4096 bytes: %d, %d", at, e)
	}
}

// edges is types that have just as much as they may.
func edges() []string {
	l := []string{
		within("list(", "int", ")", 7), within("map(", "any", ")", 7), within("[", "bool", "]", 7), within("{a:", "point", "}", 7), within("{a?:", "text", "}", 7),
		within("[", "", "]", 8), within("[", "{}", "]", 7), within("list(", "[]", ")", 7),
		"[" + strings.TrimSuffix(strings.Repeat("int,", 16), ",") + "]", "{" + names(16, ":int") + "}", "{" + names(16, "?:[]") + "}",
		"{" + strings.Repeat("a", 20) + ":int}", "{a" + strings.Repeat("9", 19) + "?:int}",
		"{a:int,a0:int,a1:int,aa:int,ab?:[text,{a:int}],b:map(list(point))}",
		"[list(int),map(text),[],{},{a:any},[bool,point]]",
	}
	return append(l, seven()...)
}

func TestEdges(t *testing.T) {
	for _, s := range edges() {
		if got := typeOf(t, s).Print(); got != s {
			t.Errorf("Print of %s: %s", s, got)
		}
	}
	for s, want := range map[string]int{"int": 1, "[]": 1, "{}": 1, "[int]": 2, "{a:int}": 2, "list([])": 2, "{a:int,b?:[text,point],c:map(any)}": 3, within("list(", "int", ")", 7): 8, within("[", "", "]", 8): 8} {
		if got := typeOf(t, s).Deep(); got != want {
			t.Errorf("Deep of %s: %d", s, got)
		}
	}
}

// want is what must come in a text.
type want struct {
	// t: a type. w: this word. f: an end, or one more. o: an end, or a comma and one more. m: one more.
	what  byte
	word  string
	deep  int
	many  int
	names bool
	last  string
}

// judge tells what Parse must, by a stack of what is still to come.
func judge(s string) (int, api.Errno) {
	if len(s) > 4096 {
		return 0, api.ErrLong
	}
	begins := map[string]string{"a": "any", "b": "bool", "i": "int", "p": "point", "t": "text", "l": "list(", "m": "map(", "[": "[", "{": "{"}
	stack := []want{{what: 't', deep: 1}}
	at := 0
	for len(stack) > 0 {
		w := stack[len(stack)-1]
		stack = stack[:len(stack)-1]
		next := s[at:min(at+1, len(s))]
		end := "]"
		if w.names {
			end = "}"
		}
		switch w.what {
		case 't':
			word := begins[next]
			switch {
			case word == "":
				return at, api.ErrForm
			case w.deep > 8 || w.many == 16:
				return at, api.ErrLong
			case word == "list(" || word == "map(":
				stack = append(stack, want{what: 'w', word: ")"}, want{what: 't', deep: w.deep + 1})
			case word == "[" || word == "{":
				stack = append(stack, want{what: 'f', deep: w.deep, names: word == "{"})
			}
			stack = append(stack, want{what: 'w', word: word})
		case 'w':
			for i := range w.word {
				if !strings.HasPrefix(s[at:], w.word[i:i+1]) {
					return at, api.ErrForm
				}
				at++
			}
		case 'f', 'o':
			switch {
			case next == end:
				at++
			case w.what == 'f':
				w.what = 'm'
				stack = append(stack, w)
			case next == ",":
				at++
				w.what = 'm'
				stack = append(stack, w)
			default:
				return at, api.ErrForm
			}
		case 'm':
			began := at
			if w.names {
				const letters = "abcdefghijklmnopqrstuvwxyz"
				if next == "" || !strings.Contains(letters, next) {
					return at, api.ErrForm
				}
				at += len(s[at:]) - len(strings.TrimLeft(s[at:], letters+"0123456789"))
				name := s[began:at]
				switch {
				case w.many == 16:
					return began, api.ErrLong
				case len(name) > 20:
					return began, api.ErrName
				case name == w.last:
					return began, api.ErrTwice
				case name < w.last:
					return began, api.ErrForm
				}
				w.last = name
				at += len(s[at:]) - len(strings.TrimPrefix(s[at:], "?"))
			}
			one := want{what: 't', deep: w.deep + 1, many: w.many}
			w.what = 'o'
			w.many++
			stack = append(stack, w, one)
			if w.names {
				stack = append(stack, want{what: 'w', word: ":"})
			}
		}
	}
	if at < len(s) {
		return at, api.ErrForm
	}
	return 0, api.OK
}

// wantJudged looks whether Parse tells of a text what it must.
func wantJudged(t *testing.T, s string) {
	t.Helper()
	k, at, e := kind.Parse(s)
	if wantAt, wantE := judge(s); at != wantAt || e != wantE {
		t.Fatalf("Parse(%q): %d, %d, not %d, %d", s, at, e, wantAt, wantE)
	}
	if (k != nil) != (e == api.OK) || k.Print() != map[bool]string{true: s}[e == api.OK] {
		t.Fatalf("Parse(%q): %s", s, k.Print())
	}
}

// TestCut reads all beginnings of types' texts, and what comes of them by one byte.
func TestCut(t *testing.T) {
	const bytes = "abilmptxz019A[](){},:? \x00\xff"
	for _, s := range edges() {
		for i := range len(s) + 1 {
			wantJudged(t, s[:i])
			wantJudged(t, s[i:])
			for _, c := range []byte(bytes) {
				wantJudged(t, s[:i]+string([]byte{c})+s[i:])
				if i < len(s) {
					wantJudged(t, s[:i]+string([]byte{c})+s[i+1:])
				}
			}
			if i < len(s) {
				wantJudged(t, s[:i]+s[i+1:])
			}
		}
	}
}

// TestShort reads all short texts.
func TestShort(t *testing.T) {
	const bytes = "[]{},:?ab1"
	var all func(s string, more int)
	all = func(s string, more int) {
		wantJudged(t, s)
		for i := range len(bytes) {
			if more > 0 {
				all(s+bytes[i:i+1], more-1)
			}
		}
	}
	all("", 5)
	for _, s := range []string{"{a:[]", "{a1?:{},", "[[],", "list(", "map(", "[int,{b:", "{b:[],c?"} {
		all(s, 4)
	}
}
