package value_test

import (
	"math"
	"slices"
	"strconv"
	"strings"
	"testing"

	"flange/api"
	"flange/value"
)

const edge = 1 << 53

func point(re, im int) value.Value {
	p, e := value.Point(re, im)
	if e != api.OK {
		panic("no point: " + strconv.Itoa(re) + ", " + strconv.Itoa(im))
	}
	return p
}

// tie is a Map of keys and values, one by one.
func tie(l ...any) value.Value {
	var keys []string
	var items []value.Value
	for i := 0; i < len(l); i += 2 {
		keys = append(keys, l[i].(string))
		items = append(items, l[i+1].(value.Value))
	}
	m, e := value.Map(keys, items)
	if e != api.OK {
		panic("no map")
	}
	return m
}

// show is a value as a text, made by its exported functions alone; no two values have the same.
func show(v value.Value) string {
	var b strings.Builder
	b.WriteString(strconv.Itoa(v.Kind()) + " ")
	flag, _ := v.Bool()
	n, _ := v.Int()
	re, im, _ := v.Point()
	s, _ := v.Text()
	b.WriteString(strconv.FormatBool(flag) + " " + strconv.Itoa(n) + " " + strconv.Itoa(re) + " " + strconv.Itoa(im) + " " + strconv.Quote(s))
	keys := v.Keys()
	b.WriteString("[")
	for i, x := range v.Items() {
		if v.Kind() == value.KindMap {
			b.WriteString(strconv.Quote(keys[i]) + ":")
		}
		b.WriteString(show(x) + ",")
	}
	b.WriteString("]")
	return b.String()
}

// some is values of all kinds, no two the same.
func some() []value.Value {
	return []value.Value{
		value.Unset(), value.Later(), value.Of(false), value.Of(true),
		value.Int(0), value.Int(1), value.Int(-1), value.Int(math.MaxInt), value.Int(math.MinInt),
		point(0, 0), point(1, 0), point(0, 1), point(edge, -edge), point(-edge, edge),
		value.Text(""), value.Text("a"), value.Text("1"), value.Text("\x00\xff"), value.Text("null"),
		value.List(), value.List(value.Unset()), value.List(value.List()), value.List(tie()),
		value.List(value.Int(1), value.Int(2)), value.List(value.Int(2), value.Int(1)),
		value.List(value.Int(1), value.Later()), value.List(value.Int(1), point(2, 0)),
		tie(), tie("a", value.Unset()), tie("", value.Unset()), tie("a", value.Int(1)), tie("b", value.Int(1)),
		tie("a", value.Int(1), "b", value.Int(2)), tie("a", value.Int(2), "b", value.Int(1)),
		tie("a", value.List(value.Int(1), tie("", value.Text("x"))), "b", value.Later()),
		tie("a", value.List(value.Int(1), tie("", value.Text("y"))), "b", value.Later()),
	}
}

func TestZeroIsNull(t *testing.T) {
	var zero value.Value
	if zero.Kind() != value.KindNull || !value.Same(zero, value.Unset()) || show(zero) != show(value.Unset()) {
		t.Errorf("the zero Value: %s", show(zero))
	}
}

func TestKinds(t *testing.T) {
	for i, k := range []int{value.KindNull, value.KindUnknown, value.KindBool, value.KindInt, value.KindPoint, value.KindText, value.KindList, value.KindMap} {
		if i != k {
			t.Errorf("kind %d is %d", i, k)
		}
	}
	for i, v := range []value.Value{value.Unset(), value.Later(), value.Of(true), value.Int(7), point(8, -9), value.Text("x"), value.List(value.Int(1)), tie("k", value.Int(2))} {
		if v.Kind() != i {
			t.Errorf("kind %d: %d", i, v.Kind())
		}
		if b, ok := v.Bool(); b != (i == 2) || ok != (i == 2) {
			t.Errorf("Bool of kind %d: %v, %v", i, b, ok)
		}
		if n, ok := v.Int(); ok != (i == 3) || ok && n != 7 || !ok && n != 0 {
			t.Errorf("Int of kind %d: %d, %v", i, n, ok)
		}
		if re, im, ok := v.Point(); ok != (i == 4) || ok && (re != 8 || im != -9) || !ok && (re != 0 || im != 0) {
			t.Errorf("Point of kind %d: %d, %d, %v", i, re, im, ok)
		}
		if s, ok := v.Text(); ok != (i == 5) || ok && s != "x" || !ok && s != "" {
			t.Errorf("Text of kind %d: %q, %v", i, s, ok)
		}
		if l := v.Items(); len(l) > 0 != (i >= 6) {
			t.Errorf("Items of kind %d: %d", i, len(l))
		}
		if l := v.Keys(); len(l) > 0 != (i == 7) {
			t.Errorf("Keys of kind %d: %q", i, l)
		}
		if x, ok := v.At("k"); ok != (i == 7) || !ok && x.Kind() != value.KindNull {
			t.Errorf("At of kind %d: %v", i, ok)
		}
	}
}

func TestScalars(t *testing.T) {
	if b, ok := value.Of(false).Bool(); b || !ok {
		t.Errorf("Of(false): %v, %v", b, ok)
	}
	for _, n := range []int{0, 1, -1, edge + 1, math.MaxInt, math.MinInt} {
		if got, ok := value.Int(n).Int(); got != n || !ok {
			t.Errorf("Int(%d): %d, %v", n, got, ok)
		}
	}
	for _, s := range []string{"", "a", "\x00\xff\"", strings.Repeat("x", 10000)} {
		if got, ok := value.Text(s).Text(); got != s || !ok {
			t.Errorf("Text(%q): %q, %v", s, got, ok)
		}
	}
}

func TestPoint(t *testing.T) {
	parts := []int{0, 1, -1, edge, -edge, edge - 1, 1 - edge}
	for _, re := range parts {
		for _, im := range parts {
			p, e := value.Point(re, im)
			if x, y, ok := p.Point(); x != re || y != im || !ok || e != api.OK {
				t.Errorf("Point(%d, %d): %d, %d, %v, %d", re, im, x, y, ok, e)
			}
		}
		for _, beyond := range []int{edge + 1, -edge - 1, edge + 2, math.MaxInt, math.MinInt} {
			for _, two := range [][2]int{{re, beyond}, {beyond, re}, {beyond, beyond}} {
				if p, e := value.Point(two[0], two[1]); p.Kind() != value.KindNull || e != api.ErrRange {
					t.Errorf("Point(%d, %d): %s, %d", two[0], two[1], show(p), e)
				}
			}
		}
	}
}

func TestList(t *testing.T) {
	for _, l := range [][]value.Value{nil, {}, {value.Unset()}, some(), make([]value.Value, 1000)} {
		v := value.List(l...)
		if v.Kind() != value.KindList || !slices.EqualFunc(v.Items(), l, value.Same) || len(v.Keys()) != 0 {
			t.Errorf("List of %d: kind %d, %d items", len(l), v.Kind(), len(v.Items()))
		}
	}
}

func TestMap(t *testing.T) {
	v := tie("b", value.Int(1), "", value.Int(2), "ab", value.Int(3), "a", value.Int(4), "\xff", value.Int(5), "B", value.Int(6))
	if got := v.Keys(); !slices.Equal(got, []string{"", "B", "a", "ab", "b", "\xff"}) {
		t.Errorf("Keys: %q", got)
	}
	want := []value.Value{value.Int(2), value.Int(6), value.Int(4), value.Int(3), value.Int(1), value.Int(5)}
	if !slices.EqualFunc(v.Items(), want, value.Same) {
		t.Errorf("Items: %s", show(v))
	}
	for i, k := range v.Keys() {
		if x, ok := v.At(k); !ok || !value.Same(x, want[i]) {
			t.Errorf("At(%q): %s, %v", k, show(x), ok)
		}
	}
	for _, k := range []string{"c", "A", "aba", " "} {
		if x, ok := v.At(k); ok || x.Kind() != value.KindNull {
			t.Errorf("At(%q): %s, %v", k, show(x), ok)
		}
	}
	empty, e := value.Map(nil, nil)
	if e != api.OK || empty.Kind() != value.KindMap || len(empty.Keys()) != 0 || len(empty.Items()) != 0 {
		t.Errorf("Map of nothing: %s, %d", show(empty), e)
	}
	if x, ok := tie("a", value.Unset()).At("a"); !ok || x.Kind() != value.KindNull {
		t.Errorf("At of Null: %v", ok)
	}
}

func TestMapWrong(t *testing.T) {
	one := value.Int(1)
	for _, x := range []struct {
		keys []string
		l    []value.Value
		want api.Errno
	}{
		{[]string{"a"}, nil, api.ErrArg},
		{nil, []value.Value{one}, api.ErrArg},
		{[]string{"a", "b"}, []value.Value{one}, api.ErrArg},
		{[]string{"a", "a"}, []value.Value{one}, api.ErrArg},
		{[]string{"a", "a"}, []value.Value{one, one, one}, api.ErrArg},
		{[]string{"a", "a"}, []value.Value{one, one}, api.ErrTwice},
		{[]string{"", "b", ""}, []value.Value{one, one, one}, api.ErrTwice},
		{[]string{"c", "a", "b", "c"}, []value.Value{one, one, one, one}, api.ErrTwice},
	} {
		if v, e := value.Map(x.keys, x.l); v.Kind() != value.KindNull || e != x.want {
			t.Errorf("Map(%q, %d values): %s, %d, not %d", x.keys, len(x.l), show(v), e, x.want)
		}
	}
}

func key(k string) value.Step { return value.Step{Key: k, At: -1} }

func at(i int) value.Step { return value.Step{At: i} }

// tree is a value with lists and maps in one another.
func tree() value.Value {
	return tie(
		"a", value.List(value.Int(1), tie("", value.Text("x"), "k", value.List())),
		"", value.List(value.List(value.Later())),
		"z", value.Unset(),
	)
}

func TestGo(t *testing.T) {
	for _, x := range []struct {
		l    []value.Step
		want value.Value
		e    api.Errno
	}{
		{nil, tree(), api.OK},
		{[]value.Step{key("a"), at(0)}, value.Int(1), api.OK},
		{[]value.Step{{Key: "a", At: 7}, at(0)}, value.Int(1), api.OK},
		{[]value.Step{{Key: "a"}, {}}, value.Int(1), api.OK},
		{[]value.Step{key("a"), at(1), key("")}, value.Text("x"), api.OK},
		{[]value.Step{key("a"), at(1), {At: math.MinInt}}, value.Text("x"), api.OK},
		{[]value.Step{key(""), at(0), at(0)}, value.Later(), api.OK},
		{[]value.Step{key("z")}, value.Unset(), api.OK},
		{[]value.Step{at(0)}, value.Unset(), api.ErrType},
		{[]value.Step{key("a"), key("a")}, value.Unset(), api.ErrType},
		{[]value.Step{key("a"), key("")}, value.Unset(), api.ErrType},
		{[]value.Step{key("a"), {Key: "a", At: 0}}, value.Unset(), api.ErrType},
		{[]value.Step{key("a"), at(0), at(0)}, value.Unset(), api.ErrType},
		{[]value.Step{key("z"), key("a")}, value.Unset(), api.ErrType},
		{[]value.Step{key("z"), at(0)}, value.Unset(), api.ErrType},
		{[]value.Step{key(""), at(0), at(0), at(0)}, value.Unset(), api.ErrType},
		{[]value.Step{key("b")}, value.Unset(), api.ErrNone},
		{[]value.Step{key("b"), at(0)}, value.Unset(), api.ErrNone},
		{[]value.Step{key("a"), at(1), key("x"), at(0)}, value.Unset(), api.ErrNone},
		{[]value.Step{key("a"), at(2)}, value.Unset(), api.ErrRange},
		{[]value.Step{key("a"), at(math.MaxInt)}, value.Unset(), api.ErrRange},
		{[]value.Step{key("a"), at(2), key("x")}, value.Unset(), api.ErrRange},
		{[]value.Step{key("a"), at(1), key("k"), at(0)}, value.Unset(), api.ErrRange},
	} {
		if got, e := tree().Go(x.l...); e != x.e || !value.Same(got, x.want) {
			t.Errorf("Go(%v): %s, %d, not %s, %d", x.l, show(got), e, show(x.want), x.e)
		}
	}
	for _, v := range some() {
		wantNoStep(t, v, at(0), value.KindList)
		wantNoStep(t, v, key(""), value.KindMap)
	}
}

// wantNoStep: a step into a value of another kind than that is ErrType.
func wantNoStep(t *testing.T, v value.Value, s value.Step, kind int) {
	t.Helper()
	if _, e := v.Go(s); (e == api.ErrType) != (v.Kind() != kind) {
		t.Errorf("Go(%v) of %s: %d", s, show(v), e)
	}
	if x, e := v.With(value.Int(1), s); (e == api.ErrType) != (v.Kind() != kind) || e != api.OK && x.Kind() != value.KindNull {
		t.Errorf("With(1, %v) of %s: %s, %d", s, show(v), show(x), e)
	}
}

func TestWith(t *testing.T) {
	x := value.List(value.Text("new"))
	for _, c := range []struct {
		v    value.Value
		l    []value.Step
		want value.Value
	}{
		{tree(), nil, x},
		{value.Unset(), nil, x},
		{value.List(value.Int(1), value.Int(2)), []value.Step{at(0)}, value.List(x, value.Int(2))},
		{value.List(value.Int(1), value.Int(2)), []value.Step{at(1)}, value.List(value.Int(1), x)},
		{value.List(value.Int(1), value.Int(2)), []value.Step{at(2)}, value.List(value.Int(1), value.Int(2), x)},
		{value.List(), []value.Step{at(0)}, value.List(x)},
		{tie(), []value.Step{key("")}, tie("", x)},
		{tie("b", value.Int(1)), []value.Step{key("b")}, tie("b", x)},
		{tie("b", value.Int(1)), []value.Step{key("a")}, tie("a", x, "b", value.Int(1))},
		{tie("b", value.Int(1)), []value.Step{{Key: "c", At: 9}}, tie("b", value.Int(1), "c", x)},
		{tie("b", value.Int(1)), []value.Step{{At: -5}}, tie("", x, "b", value.Int(1))},
		{tie("b", value.Int(1), "d", value.Int(2)), []value.Step{key("c")}, tie("b", value.Int(1), "c", x, "d", value.Int(2))},
		{tie("a", value.List(tie())), []value.Step{key("a"), at(0), key("k")}, tie("a", value.List(tie("k", x)))},
		{tie("a", value.List(tie())), []value.Step{key("a"), at(1)}, tie("a", value.List(tie(), x))},
	} {
		was := show(c.v)
		if got, e := c.v.With(x, c.l...); e != api.OK || !value.Same(got, c.want) || show(got) != show(c.want) {
			t.Errorf("With(%v) of %s: %s, %d, not %s", c.l, was, show(got), e, show(c.want))
		}
		if show(c.v) != was {
			t.Errorf("With(%v) has changed %s to %s", c.l, was, show(c.v))
		}
	}
}

func TestWithWrong(t *testing.T) {
	for _, x := range []struct {
		l []value.Step
		e api.Errno
	}{
		{[]value.Step{at(0)}, api.ErrType},
		{[]value.Step{key("z"), key("a")}, api.ErrType},
		{[]value.Step{key("z"), at(0)}, api.ErrType},
		{[]value.Step{key("a"), key("b")}, api.ErrType},
		{[]value.Step{key("a"), at(0), at(0)}, api.ErrType},
		{[]value.Step{key("b"), key("c")}, api.ErrNone},
		{[]value.Step{key("b"), at(0)}, api.ErrNone},
		{[]value.Step{key("a"), at(1), key("n"), key("m")}, api.ErrNone},
		{[]value.Step{key("a"), at(2), at(0)}, api.ErrRange},
		{[]value.Step{key("a"), at(3)}, api.ErrRange},
		{[]value.Step{key("a"), at(math.MaxInt)}, api.ErrRange},
		{[]value.Step{key("a"), at(1), key("k"), at(1)}, api.ErrRange},
	} {
		if got, e := tree().With(value.Int(1), x.l...); e != x.e || got.Kind() != value.KindNull {
			t.Errorf("With(%v): %s, %d, not %d", x.l, show(got), e, x.e)
		}
	}
}

// ways is all steps that lead to a value in v, each as a list; the empty one among them.
func ways(v value.Value) [][]value.Step {
	out := [][]value.Step{nil}
	for i, x := range v.Items() {
		s := at(i)
		if v.Kind() == value.KindMap {
			s = key(v.Keys()[i])
		}
		for _, l := range ways(x) {
			out = append(out, append([]value.Step{s}, l...))
		}
	}
	return out
}

// onWay tells whether one list of steps begins with the other, or the other way round.
func onWay(a, b []value.Step) bool {
	n := min(len(a), len(b))
	return slices.Equal(a[:n], b[:n])
}

// TestPutIsThere: what is put in is there, and nothing else has changed.
func TestPutIsThere(t *testing.T) {
	for _, v := range append(some(), tree()) {
		was := show(v)
		for _, way := range ways(v) {
			for _, x := range []value.Value{value.Text("new"), value.Later(), tree()} {
				got, e := v.With(x, way...)
				if e != api.OK {
					t.Fatalf("With(%v) of %s: %d", way, was, e)
				}
				if y, e := got.Go(way...); e != api.OK || !value.Same(x, y) {
					t.Fatalf("With(%v) of %s: %s is there", way, was, show(y))
				}
				wantOthers(t, v, got, way)
				old, _ := v.Go(way...)
				if back, e := got.With(old, way...); e != api.OK || !value.Same(back, v) {
					t.Fatalf("With(%v) of %s, and back: %s", way, was, show(back))
				}
			}
		}
		if show(v) != was {
			t.Fatalf("%s has become %s", was, show(v))
		}
	}
}

// wantOthers: beside that way, both values are the same.
func wantOthers(t *testing.T, v, got value.Value, way []value.Step) {
	t.Helper()
	for _, other := range ways(v) {
		if onWay(way, other) {
			continue
		}
		a, _ := v.Go(other...)
		if b, e := got.Go(other...); e != api.OK || !value.Same(a, b) {
			t.Fatalf("With(%v): at %v %s has become %s, %d", way, other, show(a), show(b), e)
		}
	}
}

func TestMeasures(t *testing.T) {
	for _, x := range []struct {
		v          value.Value
		deep, size int
		known      bool
	}{
		{value.Unset(), 1, 1, true},
		{value.Later(), 1, 1, false},
		{value.Of(false), 1, 1, true},
		{value.Int(3), 1, 1, true},
		{point(1, 2), 1, 1, true},
		{value.Text("?"), 1, 1, true},
		{value.List(), 1, 1, true},
		{tie(), 1, 1, true},
		{value.List(value.Unset()), 2, 2, true},
		{value.List(value.Later()), 2, 2, false},
		{tie("a", value.Later()), 2, 2, false},
		{value.List(value.List(), value.List(value.List()), value.Int(1)), 3, 5, true},
		{value.List(tie("a", value.List(value.Int(1), value.Later())), value.Int(1)), 4, 6, false},
		{tree(), 4, 10, false},
	} {
		if x.v.Deep() != x.deep || x.v.Size() != x.size || x.v.Known() != x.known || !x.v.Right() {
			t.Errorf("%s: deep %d, size %d, known %v, right %v", show(x.v), x.v.Deep(), x.v.Size(), x.v.Known(), x.v.Right())
		}
	}
}

// TestMeasuresOfMade: a value that With made is measured as one that was made at once.
func TestMeasuresOfMade(t *testing.T) {
	for _, v := range append(some(), tree()) {
		for _, way := range ways(v) {
			for _, x := range []value.Value{value.Int(1), value.Later(), tree(), nest(8), value.Text(strings.Repeat("x", 257))} {
				got, _ := v.With(x, way...)
				deep, size, known := walk(got)
				if got.Deep() != deep || got.Size() != size || got.Known() != known {
					t.Errorf("%s: deep %d, size %d, known %v", show(got), got.Deep(), got.Size(), got.Known())
				}
				if want := deep <= 8 && x.Right(); got.Right() != want {
					t.Errorf("%s: right %v", show(got), got.Right())
				}
			}
		}
	}
}

// walk measures a value by going through all of it.
func walk(v value.Value) (deep, size int, known bool) {
	deep, size, known = 1, 1, v.Kind() != value.KindUnknown
	for _, x := range v.Items() {
		d, s, k := walk(x)
		deep, size, known = max(deep, d+1), size+s, known && k
	}
	return deep, size, known
}

// nest is that many values in one another, lists and maps in turn.
func nest(deep int) value.Value {
	v := value.Int(1)
	for i := range deep - 1 {
		if i%2 == 0 {
			v = value.List(v)
		} else {
			v = tie("k", v)
		}
	}
	return v
}

// many is a List, and a Map, of that many values.
func many(n int) []value.Value {
	m := tie()
	for i := range n {
		m, _ = m.With(value.Unset(), key(strconv.Itoa(i)))
	}
	return []value.Value{value.List(make([]value.Value, n)...), m}
}

func TestRight(t *testing.T) {
	ok, long := strings.Repeat("x", 256), strings.Repeat("x", 257)
	right := append(many(64), nest(8), value.Text(ok), tie(ok, value.Text(ok)), value.Int(math.MinInt))
	wrong := append(many(65), nest(9), nest(100), value.Text(long), tie(long, value.Int(1)), tie("a", value.Int(1), long, value.Int(1), "z", value.Int(1)))
	empty := value.List()
	for range 7 {
		empty = value.List(empty)
	}
	right = append(right, empty)
	wrong = append(wrong, value.List(empty), tie("a", empty), value.List(value.Int(1), empty, value.Int(2)))
	for _, v := range right {
		if !v.Right() {
			t.Errorf("isn't right: deep %d, size %d", v.Deep(), v.Size())
		}
		if v.Deep() < 8 && (!value.List(v, v).Right() || !tie("a", v).Right()) {
			t.Errorf("isn't right within another: deep %d, size %d", v.Deep(), v.Size())
		}
	}
	for _, v := range wrong {
		for _, x := range []value.Value{v, value.List(value.Int(1), v), value.List(v, value.Int(1)), tie("a", v, "b", value.Int(1)), tie("a", value.List(v))} {
			if x.Right() {
				t.Errorf("is right: deep %d, size %d", x.Deep(), x.Size())
			}
		}
	}
}

func TestSame(t *testing.T) {
	a, b := append(some(), tree()), append(some(), tree())
	for i := range a {
		for j := range b {
			if got := value.Same(a[i], b[j]); got != (i == j) {
				t.Errorf("Same(%s, %s): %v", show(a[i]), show(b[j]), got)
			}
			if got := value.Same(value.List(a[i], tie("k", a[i])), value.List(b[j], tie("k", b[j]))); got != (i == j) {
				t.Errorf("Same(%s, %s), in others: %v", show(a[i]), show(b[j]), got)
			}
			if got := value.Same(tie("k", a[i], "l", a[0]), tie("k", a[i], "l", b[j])); got != (j == 0) {
				t.Errorf("Same of maps of %s, %s: %v", show(a[0]), show(b[j]), got)
			}
		}
	}
	if !value.Same(tie("a", value.Int(1), "b", value.Int(2)), tie("b", value.Int(2), "a", value.Int(1))) {
		t.Errorf("Same of a Map whose keys came in another order: false")
	}
	// The same shared value against one that is the same in one place alone.
	x, y := value.List(value.Int(1)), value.List(value.Int(2))
	if value.Same(value.List(x, x), value.List(x, y)) || value.Same(value.List(x, x, x), value.List(value.List(value.Int(1)), value.List(value.Int(1)), y)) {
		t.Errorf("Same of a List of others: true")
	}
}

func TestSum(t *testing.T) {
	for _, x := range []struct {
		a, b, want value.Value
	}{
		{value.Unset(), value.Unset(), value.Unset()},
		{value.Int(2), value.Int(3), value.Int(5)},
		{value.Int(math.MaxInt), value.Int(math.MinInt), value.Int(-1)},
		{value.Int(math.MaxInt), value.Int(0), value.Int(math.MaxInt)},
		{value.Int(math.MaxInt - 1), value.Int(1), value.Int(math.MaxInt)},
		{value.Int(math.MinInt + 1), value.Int(-1), value.Int(math.MinInt)},
		{value.Int(edge), value.Int(edge), value.Int(2 * edge)},
		{point(1, -2), point(3, 4), point(4, 2)},
		{point(1, 1), point(-1, -1), point(0, 0)},
		{point(edge, -edge), point(-edge, edge), point(0, 0)},
		{point(edge-1, 1-edge), point(1, -1), point(edge, -edge)},
		{point(2, -3), value.Int(4), point(6, -3)},
		{point(2, -3), value.Int(-2), point(0, -3)},
		{point(0, edge), value.Int(edge), point(edge, edge)},
		{point(-edge, 0), value.Int(edge), point(0, 0)},
		{point(edge, 0), value.Int(-edge), point(0, 0)},
		{value.Text(""), value.Text(""), value.Text("")},
		{value.Text("ab"), value.Text("\xffc"), value.Text("ab\xffc")},
		{value.Text(strings.Repeat("x", 200)), value.Text(strings.Repeat("x", 200)), value.Text(strings.Repeat("x", 400))},
	} {
		if got, e := value.Sum(x.a, x.b); e != api.OK || !value.Same(got, x.want) {
			t.Errorf("Sum(%s, %s): %s, %d, not %s", show(x.a), show(x.b), show(got), e, show(x.want))
		}
		turned := x.want
		if s, ok := x.a.Text(); ok {
			r, _ := x.b.Text()
			turned = value.Text(r + s)
		}
		if got, e := value.Sum(x.b, x.a); e != api.OK || !value.Same(got, turned) {
			t.Errorf("Sum(%s, %s): %s, %d, not %s", show(x.b), show(x.a), show(got), e, show(turned))
		}
	}
}

func wantNoSum(t *testing.T, a, b value.Value, want api.Errno) {
	t.Helper()
	for range 2 {
		if got, e := value.Sum(a, b); e != want || got.Kind() != value.KindNull {
			t.Errorf("Sum(%s, %s): %s, %d, not %d", show(a), show(b), show(got), e, want)
		}
		a, b = b, a
	}
}

func TestSumBeyond(t *testing.T) {
	for _, x := range [][2]value.Value{
		{value.Int(math.MaxInt), value.Int(1)},
		{value.Int(math.MinInt), value.Int(-1)},
		{value.Int(math.MaxInt), value.Int(math.MaxInt)},
		{value.Int(math.MinInt), value.Int(math.MinInt)},
		{point(edge, 0), point(1, 0)},
		{point(-edge, 0), point(-1, 0)},
		{point(0, edge), point(0, 1)},
		{point(0, -edge), point(5, -1)},
		{point(edge, edge), point(edge, edge)},
		{point(edge, 0), value.Int(1)},
		{point(-edge, 0), value.Int(-1)},
		{point(-5, 0), value.Int(edge + 1)},
		{point(5, 0), value.Int(-edge - 1)},
		{point(-edge, 0), value.Int(math.MaxInt)},
		{point(edge, 0), value.Int(math.MinInt)},
	} {
		wantNoSum(t, x[0], x[1], api.ErrRange)
	}
}

func TestSumOfNoSuchKinds(t *testing.T) {
	for _, a := range some() {
		for _, b := range some() {
			i, j := min(a.Kind(), b.Kind()), max(a.Kind(), b.Kind())
			has := i == j && (i == value.KindNull || i == value.KindInt || i == value.KindPoint || i == value.KindText) || i == value.KindInt && j == value.KindPoint
			if _, e := value.Sum(a, b); has && e == api.ErrType {
				t.Errorf("Sum(%s, %s): ErrType", show(a), show(b))
			}
			if !has {
				wantNoSum(t, a, b, api.ErrType)
			}
		}
	}
}

// TestMemory: what is handed in is neither changed nor kept, what is answered is new memory.
func TestMemory(t *testing.T) {
	l := []value.Value{value.Int(1), value.Int(2), value.Int(3)}
	keys := []string{"b", "a", "c"}
	list := value.List(l[:2]...)
	m, _ := value.Map(keys[:2], l[:2])
	wasList, wasMap := show(list), show(m)
	for _, v := range []value.Value{list, m} {
		got := v.Items()
		got[0] = value.Text("z")
		_ = append(got, value.Text("z"))
		for i := range v.Keys() {
			v.Keys()[i] = "z"
		}
	}
	more, _ := list.With(value.Int(4), at(2))
	other, _ := list.With(value.Int(5), at(2))
	if x, _ := more.Go(at(2)); !value.Same(x, value.Int(4)) || value.Same(more, other) {
		t.Errorf("two Lists share memory: %s, %s", show(more), show(other))
	}
	steps := []value.Step{key("a"), at(7)}
	_, _ = m.With(value.Int(9), steps[:1]...)
	if n, _ := l[2].Int(); n != 3 || !slices.Equal(keys, []string{"b", "a", "c"}) || steps[1] != at(7) {
		t.Errorf("what was handed in is changed: %q, %v", keys, steps)
	}
	l[0], l[1], keys[0], keys[1] = value.Unset(), value.Unset(), "x", "x"
	if show(list) != wasList || show(m) != wasMap {
		t.Errorf("what was handed in is kept: %s, %s", show(list), show(m))
	}
}

// TestWithTwice: of one value many are made, each in memory of its own.
func TestWithTwice(t *testing.T) {
	for n := range 20 {
		for _, v := range many(n) {
			was := show(v)
			var made []value.Value
			var want []string
			for i, s := range []value.Step{key(""), key("00"), key("zz"), key("zzz"), at(n), at(n)} {
				if x, e := v.With(value.Int(i), s); e == api.OK {
					made, want = append(made, x), append(want, show(x))
				}
			}
			for i, x := range made {
				if len(x.Items()) != n+1 || show(x) != want[i] {
					t.Errorf("With has changed another one: %s, not %s", show(x), want[i])
				}
			}
			if show(v) != was || len(made) < 2 {
				t.Errorf("With has changed %s to %s", was, show(v))
			}
		}
	}
}

// TestShared: a value may stand in others in many places, and these again; all is told in no time.
func TestShared(t *testing.T) {
	full := func(last value.Value) value.Value {
		v := last
		for range 7 {
			l := make([]value.Value, 64)
			for i := range l {
				l[i] = v
			}
			v = value.List(l...)
		}
		return v
	}
	v, size := full(value.Int(1)), 0
	for range 8 {
		size = size*64 + 1
	}
	if v.Deep() != 8 || v.Size() != size || !v.Known() || !v.Right() {
		t.Errorf("a full List: deep %d, size %d, known %v, right %v", v.Deep(), v.Size(), v.Known(), v.Right())
	}
	if !value.Same(v, full(value.Int(1))) || value.Same(v, full(value.Int(2))) || value.Same(v, full(value.Text("1"))) {
		t.Errorf("Same of full Lists")
	}
	twice := value.Later()
	for range 200 {
		twice = value.List(twice, twice)
	}
	if twice.Deep() != 201 || twice.Known() || twice.Right() || !value.Same(twice, twice) || twice.Size() != math.MaxInt {
		t.Errorf("a List twice in a List, and so on: deep %d, size %d", twice.Deep(), twice.Size())
	}
}

// TestVeryDeep: there is no depth at which a call panics.
func TestVeryDeep(t *testing.T) {
	const deep = 1000000
	build := func(last int) value.Value {
		v := value.Int(last)
		for range deep - 1 {
			v = value.List(v)
		}
		return v
	}
	v, w := build(1), build(1)
	if v.Deep() != deep || v.Size() != deep || v.Right() || !v.Known() || !value.Same(v, w) || value.Same(v, build(2)) {
		t.Errorf("a very deep List: deep %d, size %d", v.Deep(), v.Size())
	}
	way := make([]value.Step, deep-1)
	x, e := v.With(value.Int(2), way...)
	if e != api.OK || !value.Same(x, build(2)) {
		t.Errorf("With, very deep: %d", e)
	}
	if y, e := x.Go(way...); e != api.OK || !value.Same(y, value.Int(2)) {
		t.Errorf("Go, very deep: %d", e)
	}
	if _, e := v.Go(append(way, at(0))...); e != api.ErrType {
		t.Errorf("Go, too deep: %d", e)
	}
}
