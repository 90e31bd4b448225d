package coerce_test

import (
	"runtime/debug"
	"strings"
	"testing"

	"flange/api"
	"flange/coerce"
	"flange/text"
	"flange/value"
)

// lists is a value within so many Lists, in 64 places of each.
func lists(v value.Value, deep int) value.Value {
	for range deep {
		l := make([]value.Value, 64)
		for i := range l {
			l[i] = v
		}
		v = value.List(l...)
	}
	return v
}

func listKind(of string, deep int) string {
	return strings.Repeat("list(", deep) + of + strings.Repeat(")", deep)
}

// TestShared is of values that stand in others in so many places that nobody could go through all of them.
func TestShared(t *testing.T) {
	k := typeOf(t, listKind("[int,text]", 6))
	got, way, e := coerce.Bring(k, lists(read(t, `["1",1]`), 6))
	if e != api.OK || !value.Same(got, lists(read(t, `[1,"1"]`), 6)) {
		t.Errorf("Bring: %s, %d", text.Path(way...), e)
	}
	// The last one of all is wrong.
	bad := read(t, `["x",1]`)
	for i := range 6 {
		l := lists(read(t, `["1",1]`), i+1).Items()
		l[63] = bad
		bad = value.List(l...)
	}
	_, way, e = coerce.Bring(k, bad)
	if want := strings.Repeat("[63]", 6) + "[0]"; e != api.ErrType || text.Path(way...) != want {
		t.Errorf("Bring: %s, %d", text.Path(way...), e)
	}
	// What is brought to one type isn't what is brought to another one.
	two := typeOf(t, "["+listKind("int", 6)+","+listKind("text", 6)+"]")
	v := lists(value.Text("5"), 6)
	got, way, e = coerce.Bring(two, value.List(v, v))
	if e != api.OK || !value.Same(got, value.List(lists(value.Int(5), 6), v)) {
		t.Errorf("Bring: %s, %d", text.Path(way...), e)
	}
}

// TestSmallShared is of a small value in very many places: each of these may share what becomes of it.
func TestSmallShared(t *testing.T) {
	small := make([]value.Value, 200)
	for i := range small {
		small[i] = value.Text("1")
	}
	one := value.List(small...)
	rows := make([]value.Value, 50000)
	for i := range rows {
		rows[i] = value.List(one)
	}
	got, way, e := coerce.Bring(typeOf(t, listKind("int", 3)), value.List(rows...))
	if e != api.OK {
		t.Fatalf("Bring: %s, %d", text.Path(way...), e)
	}
	x, e := got.Go(value.Step{At: 49999}, value.Step{At: 0}, value.Step{At: 199})
	if n, ok := x.Int(); e != api.OK || !ok || n != 1 {
		t.Errorf("Go: %s, %d", text.Write(x), e)
	}
}

// TestRows is of very many values, of which no two are the same.
func TestRows(t *testing.T) {
	rows := make([]value.Value, 100000)
	for i := range rows {
		rows[i] = value.List(value.Int(i), value.Text("7"))
	}
	k := typeOf(t, "list([point,int])")
	got, way, e := coerce.Bring(k, value.List(rows...))
	if e != api.OK {
		t.Fatalf("Bring: %s, %d", text.Path(way...), e)
	}
	x, _ := got.Go(value.Step{At: 99999})
	if text.Write(x) != "[(99999,0),7]" {
		t.Errorf("Bring: %s", text.Write(x))
	}
	rows[99999] = read(t, `[1,"x"]`)
	if _, way, e := coerce.Bring(k, value.List(rows...)); e != api.ErrType || text.Path(way...) != "[99999][1]" {
		t.Errorf("Bring: %s, %d", text.Path(way...), e)
	}
}

// TestLongTexts is of a long text in very many places, which is no number's: it isn't read in each of them.
func TestLongTexts(t *testing.T) {
	long := value.Text("[" + strings.Repeat("1,", api.MaxText/2-2) + "1]")
	l := make([]value.Value, 20000)
	for i := range l {
		l[i] = long
	}
	if _, way, e := coerce.Bring(typeOf(t, "list(int)"), value.List(l...)); e != api.ErrType || text.Path(way...) != "[0]" {
		t.Errorf("Bring: %s, %d", text.Path(way...), e)
	}
}

// tie is a Map of one key.
func tie(key string, v value.Value) value.Value {
	m, _ := value.Map([]string{key}, []value.Value{v})
	return m
}

// TestVeryDeep is of values that are deeper than a stack has room: a smaller one than usual, so that they needn't be that deep.
func TestVeryDeep(t *testing.T) {
	defer debug.SetMaxStack(debug.SetMaxStack(1 << 22))
	a, b, both := tie("x", value.Int(1)), tie("y", value.Int(2)), read(t, `{"x":1,"y":2}`)
	list := value.Unset()
	for range 1 << 16 {
		a, b, both, list = tie("a", a), tie("a", b), tie("a", both), value.List(list)
	}
	if !value.Same(coerce.Merge(a, b), both) {
		t.Error("deep Maps aren't merged")
	}
	if !value.Same(coerce.Merge(a, value.Unset()), a) || !value.Same(coerce.Merge(list, b), b) {
		t.Error("a deep value isn't left")
	}
	if got, _, e := coerce.Bring(typeOf(t, "list(list(any))"), list); e != api.OK || !value.Same(got, list) {
		t.Errorf("Bring: %d", e)
	}
	if _, way, e := coerce.Bring(typeOf(t, "list(list(int))"), list); e != api.ErrType || text.Path(way...) != "[0][0]" {
		t.Errorf("Bring: %s, %d", text.Path(way...), e)
	}
}

// TestSharedMaps is of Maps that stand in others in so many places that nobody could go through all of them.
func TestSharedMaps(t *testing.T) {
	keys := make([]string, 16)
	for i := range keys {
		keys[i] = string(rune('a' + i))
	}
	fill := func(v value.Value) value.Value {
		for range 20 {
			l := make([]value.Value, len(keys))
			for i := range l {
				l[i] = v
			}
			v, _ = value.Map(keys, l)
		}
		return v
	}
	a, b := fill(tie("x", value.Int(1))), fill(tie("y", value.Int(2)))
	if !value.Same(coerce.Merge(a, b), fill(read(t, `{"x":1,"y":2}`))) {
		t.Error("shared Maps aren't merged")
	}
	if !value.Same(coerce.Merge(a, a), a) {
		t.Error("a Map, merged with itself, isn't itself")
	}
}
