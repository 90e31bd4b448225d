package diag_test

import (
	"bytes"
	"math/rand"
	"slices"
	"strconv"
	"strings"
	"testing"

	"flange/api"
	"flange/diag"
	"flange/mark"
)

// textModel is a clean text, as the document's words say it, one after the other.
func textModel(s string, secrets []string) string {
	out := ""
	for _, c := range []byte(mark.Clean(s, secrets...)) {
		if c < 32 || c > 126 {
			c = '?'
		}
		out += string(rune(c))
	}
	if len(out) > 80 {
		out = out[:77] + "..."
	}
	return out
}

// cleanModel is clean notes, likewise.
func cleanModel(l []diag.Note, secrets []string) []diag.Note {
	var out []diag.Note
	for _, n := range l {
		if n.Text == "" {
			continue
		}
		n.Text = textModel(n.Text, secrets)
		if !slices.Contains(out, n) {
			out = append(out, n)
		}
	}
	return out[:min(len(out), 8)]
}

// some is notes by chance, of few texts, so that some are alike, or are then.
func some(r *rand.Rand, most int) []diag.Note {
	l := make([]diag.Note, r.Intn(most+1))
	for i := range l {
		b := make([]byte, r.Intn(4))
		for j := range b {
			b[j] = "ab\x00\xff\x7f~"[r.Intn(6)]
		}
		s := string(b)
		switch r.Intn(4) {
		case 0:
			s += strings.Repeat("x", 74+r.Intn(6)) + s
		case 1:
			s = "pass" + strconv.Itoa(r.Intn(4)) + s
		}
		l[i] = diag.Note{Error: r.Intn(2) == 0, Text: s}
	}
	return l
}

// TestCleanModel holds very many notes against the model, and what is clean against what follows from that.
func TestCleanModel(t *testing.T) {
	r := rand.New(rand.NewSource(1))
	full, fewer := 0, 0
	for range 20000 {
		l := some(r, 20)
		var secrets []string
		for i := range r.Intn(3) {
			secrets = append(secrets, "pass"+strconv.Itoa(i)[:r.Intn(2)])
		}
		got := diag.Clean(l, secrets...)
		if !slices.Equal(got, cleanModel(l, secrets)) {
			t.Fatalf("Clean %v, %q: %v", l, secrets, got)
		}
		if again := diag.Clean(got); !slices.Equal(again, got) {
			t.Fatalf("Clean %v: %v", got, again)
		}
		for _, n := range got {
			odd := func(c rune) bool { return c < 32 || c > 126 }
			if n.Text == "" || len(n.Text) > 80 || strings.ContainsFunc(n.Text, odd) || diag.Text(n.Text) != n.Text {
				t.Fatalf("Clean: %q", n.Text)
			}
		}
		if len(got) == 8 {
			full++
		}
		if len(got) < 8 && len(got) < len(l) {
			fewer++
		}
	}
	if full < 1000 || fewer < 1000 {
		t.Errorf("%d are eight, %d are fewer", full, fewer)
	}
}

// TestRoundTrip: what is encoded is decoded, errors first.
func TestRoundTrip(t *testing.T) {
	r := rand.New(rand.NewSource(2))
	long := 0
	for range 20000 {
		l := some(r, 70)
		b, e := diag.Encode(l...)
		size := 0
		for _, n := range l {
			size += 2 + len(n.Text)
		}
		// No text has more than 127 bytes: two are ahead of each.
		if (e == api.ErrLong) != (len(l) > 64 || size > api.MaxFrame) {
			t.Fatalf("Encode of %d notes, %d bytes: %d", len(l), size, e)
		}
		if e != api.OK {
			long++
			continue
		}
		var want []diag.Note
		for _, isError := range []bool{true, false} {
			for _, n := range l {
				if n.Error == isError {
					want = append(want, n)
				}
			}
		}
		got, e := diag.Decode(b)
		if e != api.OK || !slices.Equal(got, want) {
			t.Fatalf("Decode of %v: %v, %d", l, got, e)
		}
	}
	if long < 1000 || long > 19000 {
		t.Errorf("%d are too long", long)
	}
}

// TestOtherBytes: no two messages are of the same notes, whatever the bytes are.
func TestOtherBytes(t *testing.T) {
	r := rand.New(rand.NewSource(3))
	decoded := 0
	for range 500000 {
		b := make([]byte, r.Intn(10))
		for i := range b {
			b[i] = "\x00\x01\x02\x03\x05\x03\x05\x07\x80a"[r.Intn(10)]
		}
		l, e := diag.Decode(b)
		if e != api.OK {
			if e != api.ErrForm || len(l) != 0 {
				t.Fatalf("Decode %q: %v, %d", b, l, e)
			}
			continue
		}
		if again, e := diag.Encode(l...); e != api.OK || !bytes.Equal(again, b) {
			t.Fatalf("Encode of what %q is: %q, %d", b, again, e)
		}
		if len(l) > 1 {
			decoded++
		}
	}
	if decoded < 1000 {
		t.Errorf("%d are several notes", decoded)
	}
}

// TestGreat is of texts, notes and secrets that are long, or very many.
func TestGreat(t *testing.T) {
	long := strings.Repeat("secret\n", 1<<16)
	if got := diag.Text(long, "secret"); got != textModel(long[:700], []string{"secret"}) {
		t.Errorf("Text: %q", got)
	}
	if got := diag.Text(long, long); got != "***" {
		t.Errorf("Text: %q", got)
	}
	var secrets []string
	for i := range 50000 {
		secrets = append(secrets, "secret"+strconv.Itoa(i)+"-")
	}
	many := slices.Repeat([]diag.Note{bad("no secret49999-"), warn(""), warn("no secret7-")}, 50000)
	want := []diag.Note{bad("no ***"), warn("no ***")}
	if got := diag.Clean(many, secrets...); !slices.Equal(got, want) {
		t.Errorf("Clean: %v", got)
	}
	for i := range many {
		many[i].Text = strconv.Itoa(i)
	}
	if got := diag.Clean(many, secrets...); len(got) != 8 || got[7].Text != "7" {
		t.Errorf("Clean: %v", got)
	}
	if diag.Fails(make([]diag.Note, 1<<20)) || !diag.Fails(append(make([]diag.Note, 1<<20), bad(""))) {
		t.Error("Fails")
	}
}
