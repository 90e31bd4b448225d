package text_test

import (
	"math"
	"strconv"
	"strings"
	"testing"

	"flange/api"
	"flange/text"
	"flange/value"
)

const edge = 1 << 53

func point(re, im int) value.Value {
	p, e := value.Point(re, im)
	if e != api.OK {
		panic("no point")
	}
	return p
}

// tie is a Map of keys and values, one by one.
func tie(l ...any) value.Value {
	var keys []string
	var items []value.Value
	for i := 0; i < len(l); i += 2 {
		keys = append(keys, l[i].(string))
		items = append(items, l[i+1].(value.Value))
	}
	m, e := value.Map(keys, items)
	if e != api.OK {
		panic("no map")
	}
	return m
}

// told is a value, and its text.
type told struct {
	v value.Value
	s string
}

func some() []told {
	one := value.Int(1)
	return []told{
		{value.Unset(), `null`},
		{value.Value{}, `null`},
		{value.Later(), `?`},
		{value.Of(true), `true`},
		{value.Of(false), `false`},
		{value.Int(0), `0`},
		{value.Int(7), `7`},
		{value.Int(-7), `-7`},
		{value.Int(10), `10`},
		{value.Int(-100), `-100`},
		{value.Int(1234567890), `1234567890`},
		{value.Int(math.MaxInt), `9223372036854775807`},
		{value.Int(math.MinInt), `-9223372036854775808`},
		{point(0, 0), `(0,0)`},
		{point(2, -3), `(2,-3)`},
		{point(-20, 30), `(-20,30)`},
		{point(edge, -edge), `(9007199254740992,-9007199254740992)`},
		{point(-edge, edge), `(-9007199254740992,9007199254740992)`},
		{value.Text(""), `""`},
		{value.Text("null"), `"null"`},
		{value.Text(" a,]}~"), `" a,]}~"`},
		{value.Text(`"`), `"\""`},
		{value.Text(`\`), `"\\"`},
		{value.Text(`\x41`), `"\\x41"`},
		{value.Text("\x00\n\x1f\x7f\x80\xff"), `"\x00\x0a\x1f\x7f\x80\xff"`},
		{value.Text("é"), `"\xc3\xa9"`},
		{value.List(), `[]`},
		{value.List(one), `[1]`},
		{value.List(value.List(), tie()), `[[],{}]`},
		{value.List(value.Int(12), value.Unset(), value.Later(), value.Of(false), point(1, 2), value.Text(","), one), `[12,null,?,false,(1,2),",",1]`},
		{tie(), `{}`},
		{tie("", one), `{"":1}`},
		{tie("b", one, "a", value.Int(2)), `{"a":2,"b":1}`},
		{tie("a\"b", one, "a", one, "\xff", one, "B", one, "aa", one, "\n", one), `{"\x0a":1,"B":1,"a":1,"a\"b":1,"aa":1,"\xff":1}`},
		{tie("a", value.List(one, point(2, -3), value.Later())), `{"a":[1,(2,-3),?]}`},
		{tie("a", tie("b", tie("c", value.List(tie())))), `{"a":{"b":{"c":[{}]}}}`},
		{value.Text(strings.Repeat("x", 300)), `"` + strings.Repeat("x", 300) + `"`},
		{value.List(make([]value.Value, 100)...), "[" + strings.Repeat("null,", 99) + "null]"},
	}
}

func TestBothWays(t *testing.T) {
	for _, x := range some() {
		if got := text.Write(x.v); got != x.s {
			t.Errorf("Write: %s, not %s", got, x.s)
		}
		if got, n, e := text.Read(x.s); e != api.OK || n != len(x.s) || !value.Same(got, x.v) {
			t.Errorf("Read(%s): %s, %d, %d", x.s, text.Write(got), n, e)
		}
	}
}

// plain is a byte's text, if it needs no hex digits.
func plain(c byte) (string, bool) {
	if c == '"' || c == '\\' {
		return `\` + string(c), true
	}
	if c < 32 || c > 126 {
		return "", false
	}
	return string(c), true
}

// hex is a byte's text by hex digits, whether it needs them or not.
func hex(c byte) string {
	s := strconv.FormatInt(int64(c), 16)
	return `\x` + strings.Repeat("0", 2-len(s)) + s
}

func TestEveryByte(t *testing.T) {
	for i := range 256 {
		c := byte(i)
		want, isPlain := plain(c)
		if !isPlain {
			want = hex(c)
		}
		s := string([]byte{c})
		if got := text.Quote(s); got != `"`+want+`"` {
			t.Errorf("Quote(%q): %s", s, got)
		}
		if got := text.Quote("a" + s + s + "b"); got != `"a`+want+want+`b"` {
			t.Errorf("Quote of %q in others: %s", s, got)
		}
		v, n, e := text.Read(`"` + want + `"`)
		if got, ok := v.Text(); e != api.OK || n != len(want)+2 || !ok || got != s {
			t.Errorf("Read of %q, quoted: %q, %d, %d", s, got, n, e)
		}
		if raw := `"` + s + `"`; !isPlain {
			wantFault(t, raw, 1, api.ErrForm)
		}
	}
}

// TestEveryHex: of a byte that needs no hex digits the first one by which that shows can't stand there.
func TestEveryHex(t *testing.T) {
	for i := range 256 {
		c := byte(i)
		s := `"` + hex(c) + `"`
		switch {
		case c>>4 >= 2 && c>>4 <= 6:
			wantFault(t, s, 3, api.ErrForm)
		case c>>4 == 7 && c != 127:
			wantFault(t, s, 4, api.ErrForm)
		default:
			if v, _, e := text.Read(s); e != api.OK || !value.Same(v, value.Text(string([]byte{c}))) {
				t.Errorf("Read(%s): %d", s, e)
			}
		}
	}
}

func wantFault(t *testing.T, s string, at int, want api.Errno) {
	t.Helper()
	v, n, e := text.Read(s)
	if n != at || e != want || v.Kind() != value.KindNull {
		if len(s) > 100 {
			s = s[:100] + ".."
		}
		t.Errorf("Read(%q): %s, %d, %d, not %d, %d", s, text.Line(v, 100), n, e, at, want)
	}
}

func TestReadForm(t *testing.T) {
	for s, at := range map[string]int{
		"": 0, " ": 0, "x": 0, "]": 0, "}": 0, ")": 0, ",": 0, ":": 0, "+1": 0, "\x00": 0, "N": 0, "*": 0, "\\": 0,
		" 1": 0, "1 ": 1, "1\n": 1, "null ": 4, "?1": 1, "??": 1, "1,2": 1, "[]]": 2, "{}{": 2, `""x`: 2, "null\x00": 4,
		"n": 1, "nul": 3, "nulx": 3, "nx": 1, "nulll": 4, "tru": 3, "trve": 2, "truex": 4, "False": 0, "fals": 4, "fale": 3, "f\x00": 1,
		"-": 1, "--1": 1, "-x": 1, "-0": 1, "-01": 1, "00": 1, "01": 1, "1.5": 1, "1e3": 1, "1-": 1, "0x10": 1, "12a": 2, "-5-": 2,
		"(": 1, "()": 1, "(1": 2, "(1)": 2, "(1,": 3, "(1,)": 3, "(1,2": 4, "(1,2,": 4, "(,1)": 1, "(1 ,2)": 2, "(01,1)": 2, "(-0,1)": 2, "(1,-0)": 4, "(1,00)": 4, "(?,1)": 1, "(1,2))": 5, "((1,2),1)": 1,
		`"`: 1, `"a`: 2, `"a\`: 3, `"\`: 2, `"\a"`: 2, `"\n"`: 2, `"\x`: 3, `"\x"`: 3, `"\x0`: 4, `"\x0"`: 4, `"\x00`: 5, `"\xg0"`: 3, `"\x0g"`: 4, `"\xA0"`: 3, `"\xaA"`: 4, `"\xFf"`: 3, `"\X00"`: 2, `"\x20"`: 3, `"\x7e"`: 4, `"\x7`: 4, `"\u0041"`: 2, "\"\n\"": 1, "\"a\x7f\"": 2, "\"\xc3\xa9\"": 1, "'a'": 0, `"\"`: 3, "\"\x00": 1,
		"[": 1, "[1": 2, "[1,": 3, "[1,]": 3, "[,]": 1, "[,1]": 1, "[1 ,2]": 2, "[1, 2]": 3, "[1}": 2, "[}": 1, "[1,,2]": 3, "[1 2]": 2, "[ ]": 1, "[[]": 3, "[[],": 4, "[nul]": 4, "[01]": 2, "[1)": 2,
		"{": 1, "{1": 1, "{]": 1, `{"`: 2, `{"a`: 3, `{"a"`: 4, `{"a"}`: 4, `{"a",`: 4, `{"a":`: 5, `{"a":}`: 5, `{"a":1`: 6, `{"a":1,`: 7, `{"a":1,}`: 7, `{"a":1]`: 6, `{,}`: 1, `{a:1}`: 1, `{"a" :1}`: 4, `{"a": 1}`: 5, `{"a":1 }`: 6, `{ }`: 1, `{null:1}`: 1, `{"a":1,2:1}`: 7, `{"\x41":1}`: 4, `{"a":1;"b":2}`: 6, `{"a"::1}`: 5,
	} {
		wantFault(t, s, at, api.ErrForm)
	}
}

func TestReadKeys(t *testing.T) {
	for s, at := range map[string]int{`{"a":1,"a":2}`: 7, `{"":1,"":2}`: 6, `{"a":1,"b":2,"b":3}`: 13, `[{"\xff":1,"\xff":2}]`: 11, `{"a":{"b":1,"b":2}}`: 12, `{"a":1,"a"`: 7, `{"a":1,"a"x`: 7, `{"b":1,"c":2,"c":3,"a":4}`: 13} {
		wantFault(t, s, at, api.ErrTwice)
	}
	for s, at := range map[string]int{`{"b":1,"a":2}`: 7, `{"a":1,"":2}`: 7, `{"ab":1,"a":2}`: 8, `{"a":1,"c":2,"b":3}`: 13, `{"a":1,"b":2,"a":3}`: 13, `{"\xff":1,"a":2}`: 10, `[1,{"b":1,"a":2}]`: 10, `{"b":1,"a"`: 7, `{"b":1,"a"x`: 7, `{"b":1,"a":`: 7, `{"b":1,"a":01}`: 7, `{"c":1,"a":2,"a":3}`: 7} {
		wantFault(t, s, at, api.ErrForm)
	}
	// A key that isn't ended is neither twice nor below.
	for s, at := range map[string]int{`{"b":1,"a`: 9, `{"b":1,"b`: 9, "{\"b\":1,\"a\n\"": 9, `{"b":1,"b\q"`: 10, `{"b":01,"a":1}`: 6} {
		wantFault(t, s, at, api.ErrForm)
	}
	if _, _, e := text.Read(`[{"b":1},{"a":1,"b":{"a":1}}]`); e != api.OK {
		t.Errorf("Read of keys of different maps: %d", e)
	}
}

func TestReadRange(t *testing.T) {
	const max, beyond, minBeyond = "9223372036854775807", "9223372036854775808", "-9223372036854775809"
	far := strings.Repeat("9", 400)
	for s, at := range map[string]int{
		beyond: 0, minBeyond: 0, far: 0, "-" + far: 0, "[" + beyond: 1, "[" + beyond + "x": 1, beyond + "x": 0, "[1," + minBeyond + "]": 3, `{"a":` + beyond + `,"a":1}`: 5, `{"a":` + far + `}`: 5,
		"[" + beyond + ",01]": 1, "[" + beyond + "," + beyond + "]": 1,
		// A part that is beyond all ints is told where it begins, one that is beyond a Point's where the Point does.
		"(" + beyond + ",1)": 1, "(1," + beyond + ")": 3, "(1," + minBeyond: 3, "(" + far + "x": 1, "(9007199254740993," + beyond + ")": 18,
		"(9007199254740993,0)": 0, "(0,9007199254740993)": 0, "(-9007199254740993,0)": 0, "[(0,-9007199254740993)]": 1, "(" + max + "," + max + ")": 0, "[1,(" + max + ",0)x": 3, "(0,9007199254740993))": 0,
	} {
		wantFault(t, s, at, api.ErrRange)
	}
	// What is wrong with a Point counts where it ends: what is wrong ahead of that comes first.
	for s, at := range map[string]int{"(9007199254740993,": 18, "(9007199254740993,x)": 18, "(9007199254740993,01)": 19, "(9007199254740993,1": 19, "(9007199254740993,1]": 19, "(9007199254740993": 17, "-0" + far: 1, "0" + far: 1} {
		wantFault(t, s, at, api.ErrForm)
	}
}

func TestReadDeep(t *testing.T) {
	lists := func(n int) string { return strings.Repeat("[", n) }
	ends := func(n int) string { return strings.Repeat("]", n) }
	maps := func(n int) string { return strings.Repeat(`{"":`, n) }
	for _, s := range []string{lists(8) + ends(8), lists(7) + "1" + ends(7), maps(7) + "1" + strings.Repeat("}", 7), lists(7) + "{}" + ends(7), lists(7) + "(1,2)" + ends(7),
		"[" + strings.Repeat(lists(7)+ends(7)+",", 50) + "1]", lists(6) + "[],[],[{}],[],[1,2,3]" + ends(6)} {
		if v, n, e := text.Read(s); e != api.OK || n != len(s) || text.Write(v) != s {
			t.Errorf("Read(%s): %d, %d", s, n, e)
		}
	}
	for _, s := range []string{"[", "{", "1", "null", "(", `"`, "x", ",", "", "?", "}", " ", "9223372036854775808", "[]]", "\x00"} {
		wantFault(t, lists(8)+s, 8, api.ErrLong)
		wantFault(t, lists(7)+`{"a":`+s, 12, api.ErrLong)
		wantFault(t, maps(8)+s, 32, api.ErrLong)
	}
	wantFault(t, lists(100000), 8, api.ErrLong)
	wantFault(t, "["+lists(7)+ends(7)+","+lists(8)+ends(9), 23, api.ErrLong)
	// What is wrong further left comes first, and a key is no value.
	wantFault(t, lists(7)+"01"+lists(5), 8, api.ErrForm)
	wantFault(t, lists(7)+`{x`, 8, api.ErrForm)
	wantFault(t, lists(7)+`{"a"1`, 11, api.ErrForm)
	wantFault(t, lists(7)+`{"a`, 10, api.ErrForm)
	wantFault(t, lists(8)+ends(7), 15, api.ErrForm)
	wantFault(t, lists(8)+ends(9), 16, api.ErrForm)
}

func TestReadLong(t *testing.T) {
	s := `"` + strings.Repeat("a", api.MaxText-2) + `"`
	if v, n, e := text.Read(s); e != api.OK || n != api.MaxText || text.Write(v) != s {
		t.Errorf("Read of the longest text: %d, %d", n, e)
	}
	wantFault(t, s+" ", 0, api.ErrLong)
	wantFault(t, strings.Repeat("[", api.MaxText+1), 0, api.ErrLong)
	wantFault(t, strings.Repeat("x", api.MaxText), 0, api.ErrForm)
	wantFault(t, s[:api.MaxText-1], api.MaxText-1, api.ErrForm)
	wantFault(t, strings.Repeat("1", api.MaxText), 0, api.ErrRange)
}

// machine is another way to tell where a text goes wrong: a stack of what must come, the next at the end:
// V a value, L and M the inside of a list and a map, l and m what comes behind an item, K a key, c and k a colon and a comma, S a text's inside, E what comes behind a \, H and h two hex digits, f and ) themselves, N a number, P one behind a -, D more digits, 1 to 9 the letters of words.
type machine []byte

// step takes a byte; false of one that can't stand there.
func (m *machine) step(c byte) bool {
	for len(*m) > 0 {
		top := (*m)[len(*m)-1]
		*m = (*m)[:len(*m)-1]
		if top == 'D' && (c < '0' || c > '9') {
			continue
		}
		if strings.IndexByte("LMlm", top) >= 0 {
			switch {
			case c == map[byte]byte{'L': ']', 'l': ']', 'M': '}', 'm': '}'}[top]:
				return true
			case top == 'L':
				*m = append(*m, 'l', 'V')
				continue
			case top == 'M':
				*m = append(*m, 'm', 'V', 'c', 'K')
				continue
			}
		}
		more, ok := moves(top, c)
		*m = append(*m, more...)
		return ok
	}
	return false
}

// moves is what comes behind a byte, the first at the end.
func moves(top, c byte) (string, bool) {
	next := map[string]string{
		"V[": "L", "V{": "M", "V(": ")NkN", `V"`: "S", "V?": "", "Vn": "321", "Vf": "7654", "Vt": "798", "V-": "P", "V0": "",
		`K"`: "S", `S"`: "", `S\`: "SE", `E"`: "", `E\`: "", "Ex": "H", "H7": "f", "N0": "", "N-": "P",
		"c:": "", "k,": "", "l,": "lV", "m,": "mVcK", "1u": "", "2l": "", "3l": "", "4a": "", "5l": "", "6s": "", "7e": "", "8r": "", "9u": "", "))": "", "ff": "",
	}
	if more, ok := next[string([]byte{top, c})]; ok {
		return more, true
	}
	switch {
	case strings.IndexByte("VNP", top) >= 0 && c >= '1' && c <= '9' || top == 'D':
		return "D", true
	case top == 'S' && c >= 32 && c <= 126:
		return "S", true
	case top == 'H' && strings.IndexByte("0189abcdef", c) >= 0:
		return "h", true
	case top == 'h' && strings.IndexByte("0123456789abcdef", c) >= 0:
		return "", true
	}
	return "", false
}

// mayEnd tells whether nothing must come any more.
func (m *machine) mayEnd() bool {
	return strings.Trim(string(*m), "D") == ""
}

// TestEveryShortText: what is read is written the same; of any other the place is the one that the machine tells.
func TestEveryShortText(t *testing.T) {
	const bytes = "[]{}\"\\,:0127-?()nulxf\x00\xff"
	var all func(s string, m machine, at int, left int)
	all = func(s string, m machine, at int, left int) {
		v, n, e := text.Read(s)
		switch {
		case at == len(s) && m.mayEnd():
			if e != api.OK || n != len(s) || text.Write(v) != s {
				t.Errorf("Read(%q): %s, %d, %d", s, text.Write(v), n, e)
			}
		case n != at || e != api.ErrForm || v.Kind() != value.KindNull:
			t.Errorf("Read(%q): %s, %d, %d, not %d", s, text.Write(v), n, e, at)
		}
		if left == 0 || at < len(s)-1 {
			return
		}
		for i := range len(bytes) {
			next, where := append(machine{}, m...), at
			if at == len(s) && next.step(bytes[i]) {
				where++
			}
			all(s+bytes[i:i+1], next, where, left-1)
		}
	}
	all("", machine("V"), 0, 5)
}

// TestMutants: a text with one byte taken, added or changed is read as what it is the text of, or not at all.
func TestMutants(t *testing.T) {
	const bytes = "[]{}\"\\,:019-?()nx "
	for _, x := range some() {
		for i := range min(len(x.s), 60) {
			mutants := []string{x.s[:i], x.s[:i] + x.s[i+1:]}
			for j := range len(bytes) {
				mutants = append(mutants, x.s[:i]+bytes[j:j+1]+x.s[i:], x.s[:i]+bytes[j:j+1]+x.s[i+1:])
			}
			for _, s := range mutants {
				v, n, e := text.Read(s)
				if e == api.OK && (n != len(s) || text.Write(v) != s) {
					t.Errorf("Read(%q): %s, %d", s, text.Write(v), n)
				}
				if e != api.OK && (n < 0 || n > len(s) || v.Kind() != value.KindNull) {
					t.Errorf("Read(%q): %s, %d, %d", s, text.Write(v), n, e)
				}
			}
		}
	}
}

func TestPath(t *testing.T) {
	for _, x := range []struct {
		l    []value.Step
		want string
	}{
		{nil, ""},
		{[]value.Step{{Key: "a", At: -1}}, `."a"`},
		{[]value.Step{{Key: "a"}}, `."a"`},
		{[]value.Step{{Key: "a", At: 7}}, `."a"`},
		{[]value.Step{{}}, `[0]`},
		{[]value.Step{{At: 12}}, `[12]`},
		{[]value.Step{{At: math.MaxInt}}, `[9223372036854775807]`},
		{[]value.Step{{At: -1}}, `.""`},
		{[]value.Step{{At: math.MinInt}}, `.""`},
		{[]value.Step{{Key: "a\"\\\n.b", At: -1}}, `."a\"\\\x0a.b"`},
		{[]value.Step{{Key: "a", At: -1}, {At: 3}, {At: 0}, {Key: "", At: -1}, {Key: "0", At: -1}}, `."a"[3][0].""."0"`},
	} {
		if got := text.Path(x.l...); got != x.want {
			t.Errorf("Path(%v): %s, not %s", x.l, got, x.want)
		}
	}
	l := []value.Step{{Key: "a", At: 2}, {At: 3}, {Key: "c", At: 4}}
	text.Path(l[:2]...)
	if l[0] != (value.Step{Key: "a", At: 2}) || l[1] != (value.Step{At: 3}) || l[2] != (value.Step{Key: "c", At: 4}) {
		t.Errorf("Path has changed what was handed in: %v", l)
	}
}

func TestLine(t *testing.T) {
	for _, x := range some() {
		for width := -3; width < len(x.s)+5; width++ {
			want := x.s
			switch {
			case len(x.s) <= width:
			case width < 0:
				want = ""
			case width < 3:
				want = "..."[:width]
			default:
				want = x.s[:width-3] + "..."
			}
			if got := text.Line(x.v, width); got != want {
				t.Errorf("Line(%s, %d): %q, not %q", x.s, width, got, want)
			}
		}
		if text.Line(x.v, math.MinInt) != "" || text.Line(x.v, math.MaxInt) != x.s {
			t.Errorf("Line(%s) of the least and the greatest width", x.s)
		}
	}
}

// TestShared: a value may stand in others in many places, and these again; a line of it is told in no time.
func TestShared(t *testing.T) {
	v, w := value.Int(1), value.Later()
	for range 7 {
		l := make([]value.Value, 64)
		for i := range l {
			l[i] = v
		}
		v = value.List(l...)
	}
	for range 200 {
		w = tie("a", w, "b", w)
	}
	if got := text.Line(v, 20); got != "[[[[[[[1,1,1,1,1,..." {
		t.Errorf("Line of a full List: %s", got)
	}
	if got := text.Line(w, 1000); got != strings.Repeat(`{"a":`, 200)[:997]+"..." {
		t.Errorf("Line of a Map, twice in a Map, and so on: %s", got)
	}
}

// TestVeryDeep: there is no depth at which a call panics.
func TestVeryDeep(t *testing.T) {
	const deep = 3000000
	v := value.Later()
	for range deep {
		v = value.List(v)
	}
	s := text.Write(v)
	if len(s) != 2*deep+1 || strings.Count(s, "[") != deep || strings.Count(s, "]") != deep || s[deep] != '?' {
		t.Errorf("Write, very deep: %d bytes", len(s))
	}
	if got := text.Line(v, 7); got != "[[[[..." {
		t.Errorf("Line, very deep: %s", got)
	}
}
