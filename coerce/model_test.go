package coerce_test

import (
	"regexp"
	"strconv"
	"strings"
	"testing"

	"flange/api"
	"flange/coerce"
	"flange/kind"
	"flange/text"
	"flange/value"
)

var digits = regexp.MustCompile(`^(0|-?[1-9][0-9]*)$`)

// model brings a value as the document's words say it; and all ways to what can't be brought, in the order in which the first one is told.
func model(k *kind.Type, v value.Value) (value.Value, [][]value.Step) {
	n, isInt := v.Int()
	b, isBool := v.Bool()
	s, isText := v.Text()
	switch form := k.Print(); {
	case v.Kind() == value.KindNull || v.Kind() == value.KindUnknown || form == "any":
		return v, nil
	case form == "point" && isInt && n >= -1<<53 && n <= 1<<53:
		p, _ := value.Point(n, 0)
		return p, nil
	case form == "int" && isText && digits.MatchString(s):
		if n, err := strconv.ParseInt(s, 10, 64); err == nil {
			return value.Int(int(n)), nil
		}
	case form == "text" && isInt:
		return value.Text(strconv.Itoa(n)), nil
	case form == "text" && isBool:
		return value.Text(map[bool]string{true: "true", false: "false"}[b]), nil
	case form == "bool" && (s == "true" || s == "false"):
		return value.Of(s == "true"), nil
	case strings.HasPrefix(form, "list(") && v.Kind() == value.KindList:
		return modelList(func(i int) *kind.Type { p, _ := k.Place(i); return p }, v)
	case form[0] == '[' && v.Kind() == value.KindList:
		if n, _ := k.Item(0); n == len(v.Items()) {
			return modelList(func(i int) *kind.Type { p, _ := k.Place(i); return p }, v)
		}
	case strings.HasPrefix(form, "map(") && v.Kind() == value.KindMap:
		return modelMap(k, v)
	case form[0] == '{' && v.Kind() == value.KindMap:
		return modelMap(k, v)
	case k.Takes(v):
		return v, nil
	}
	return value.Unset(), [][]value.Step{nil}
}

func modelList(part func(int) *kind.Type, v value.Value) (value.Value, [][]value.Step) {
	var wrong [][]value.Step
	out := value.List()
	for i, x := range v.Items() {
		y, l := model(part(i), x)
		for _, way := range l {
			wrong = append(wrong, append([]value.Step{{At: i}}, way...))
		}
		out, _ = out.With(y, value.Step{At: i})
	}
	return out, wrong
}

func modelMap(k *kind.Type, v value.Value) (value.Value, [][]value.Step) {
	var wrong [][]value.Step
	out, _ := value.Map(nil, nil)
	for _, key := range v.Keys() {
		step := value.Step{Key: key, At: -1}
		x, _ := v.At(key)
		part, ok := k.Under(key)
		if !ok {
			wrong = append(wrong, []value.Step{step})
			continue
		}
		y, l := model(part, x)
		for _, way := range l {
			wrong = append(wrong, append([]value.Step{step}, way...))
		}
		out, _ = out.With(y, step)
	}
	for _, name := range k.Missing(v) {
		wrong = append(wrong, []value.Step{{Key: name, At: -1}})
	}
	return out, wrong
}

func kinds() []string {
	first := []string{"any", "bool", "int", "point", "text", "[]", "{}"}
	all := append([]string{}, first...)
	for i, a := range first {
		b, c := first[(i+2)%len(first)], first[(i*3+1)%len(first)]
		all = append(all, "list("+a+")", "map("+a+")", "["+a+"]", "["+a+","+b+"]", "{a:"+a+"}", "{a?:"+a+"}", "{a:"+a+",b:"+b+"}", "{a:"+c+",b?:"+a+"}", "{a?:"+b+",b:"+c+"}")
	}
	for i, a := range all {
		b := all[(i*5+3)%len(all)]
		all = append(all, "list("+a+")", "map("+a+")", "["+a+","+b+"]", "{a:"+a+",b?:"+b+"}")
	}
	return all
}

func values(t *testing.T) []value.Value {
	var all []value.Value
	for _, s := range []string{"null", "?", "true", "false", "0", "-7", "9007199254740992", "9007199254740993", "(1,2)", `"x"`, `"5"`, `"-0"`, `"true"`, `"9223372036854775808"`, "[]", "{}"} {
		all = append(all, read(t, s))
	}
	for range 2 {
		for i, a := range all {
			b := all[(i*7+5)%len(all)]
			ab, _ := value.Map([]string{"a", "b"}, []value.Value{a, b})
			one, _ := value.Map([]string{[]string{"a", "b", "c", ""}[i%4]}, []value.Value{a})
			all = append(all, value.List(a), value.List(a, b), ab, one)
		}
	}
	return all
}

// TestModel holds what is brought against the model, for all types and values.
func TestModel(t *testing.T) {
	brought, left := 0, 0
	for _, form := range kinds() {
		k := typeOf(t, form)
		for _, v := range values(t) {
			got, way, e := coerce.Bring(k, v)
			want, wrong := model(k, v)
			if len(wrong) > 0 {
				if e != api.ErrType || got.Kind() != value.KindNull || text.Path(way...) != text.Path(wrong[0]...) {
					t.Fatalf("Bring %s to %s: %s, %s, %d; not %s", text.Write(v), form, text.Write(got), text.Path(way...), e, text.Path(wrong[0]...))
				}
				continue
			}
			if e != api.OK || len(way) != 0 || !value.Same(got, want) {
				t.Fatalf("Bring %s to %s: %s, %s, %d; not %s", text.Write(v), form, text.Write(got), text.Path(way...), e, text.Write(want))
			}
			brought++
			if !k.Takes(got) {
				t.Fatalf("%s doesn't take %s", form, text.Write(got))
			}
			if !strings.Contains(form, "point") && !strings.Contains(form, "any") && k.Takes(v) {
				left++
				if !value.Same(got, v) {
					t.Fatalf("%s of %s isn't left", text.Write(v), form)
				}
			}
		}
	}
	if brought < 1000 || left < 1000 {
		t.Errorf("%d are brought, %d left", brought, left)
	}
}

// mergeModel merges as the document's words say it.
func mergeModel(a, b value.Value) value.Value {
	if a.Kind() == value.KindMap && b.Kind() == value.KindMap {
		for _, k := range b.Keys() {
			x, _ := b.At(k)
			if y, ok := a.At(k); ok {
				x = mergeModel(y, x)
			}
			a, _ = a.With(x, value.Step{Key: k, At: -1})
		}
		return a
	}
	if b.Kind() == value.KindNull {
		return a
	}
	return b
}

func TestMergeModel(t *testing.T) {
	l := values(t)
	for i, a := range l {
		for j, b := range l {
			if (i+j)%3 > 0 && a.Kind() != value.KindMap {
				continue
			}
			if got, want := coerce.Merge(a, b), mergeModel(a, b); !value.Same(got, want) {
				t.Fatalf("Merge %s, %s: %s; not %s", text.Write(a), text.Write(b), text.Write(got), text.Write(want))
			}
		}
	}
}
