package lines

import (
	"math/rand"
	"slices"
	"strings"
	"testing"

	"viewport/api"
)

func index(t *testing.T, s string) *Index {
	t.Helper()
	x, e := New(s)
	if e != api.OK {
		t.Fatal(e)
	}
	return x
}

// check holds an index against a text, going through it byte by byte.
func check(t *testing.T, x *Index, text string) {
	t.Helper()
	starts := []int{0}
	line, column := 0, 0
	for at := 0; at <= len(text); at++ {
		l, c, ok := x.Line(at)
		if l != line || c != column || !ok {
			t.Fatalf("%q: Line of %d: %d, %d, %v, not %d, %d", text, at, l, c, ok, line, column)
		}
		if got, ok := x.Place(line, column); got != at || !ok {
			t.Fatalf("%q: Place of %d, %d: %d, %v", text, line, column, got, ok)
		}
		column++
		if at < len(text) && text[at] == '\n' {
			if got, ok := x.Place(line, column); got != 0 || ok {
				t.Fatalf("%q: Place after the line feed of line %d: %d", text, line, got)
			}
			line, column = line+1, 0
			starts = append(starts, at+1)
		}
	}
	if got, ok := x.Place(line, column); got != 0 || ok {
		t.Fatalf("%q: Place after the end: %d", text, got)
	}
	if got := x.Starts(); !slices.Equal(got, starts) || x.Len() != len(starts) || x.Bytes() != len(text) {
		t.Fatalf("%q: %v, %d, %d", text, got, x.Len(), x.Bytes())
	}
	for i, want := range starts {
		if got, ok := x.Start(i); got != want || !ok {
			t.Fatalf("%q: Start of %d: %d", text, i, got)
		}
	}
}

func TestP9_2(t *testing.T) {
	for _, s := range []string{"", "a", "\n", "\n\n", "a\n", "\na", "a\nb", "ab\n\ncd\n", "\r\n\x00\xff\n"} {
		check(t, index(t, s), s)
	}
	const most = 1<<63 - 1
	x := index(t, "ab\ncd")
	for _, at := range []int{-1, 6, most, -most - 1} {
		if l, c, ok := x.Line(at); l != 0 || c != 0 || ok {
			t.Errorf("Line of %d: %d, %d, %v", at, l, c, ok)
		}
	}
	for _, line := range []int{-1, 2, most, -most - 1} {
		if at, ok := x.Start(line); at != 0 || ok {
			t.Errorf("Start of %d: %d, %v", line, at, ok)
		}
		if at, ok := x.Place(line, 0); at != 0 || ok {
			t.Errorf("Place of %d: %d, %v", line, at, ok)
		}
	}
	for _, p := range [][2]int{{0, -1}, {0, 3}, {0, 4}, {1, 3}, {1, -1}, {0, most}, {1, most}, {1, -most - 1}} {
		if at, ok := x.Place(p[0], p[1]); at != 0 || ok {
			t.Errorf("Place of %v: %d, %v", p, at, ok)
		}
	}
	l := x.Starts()
	l[1] = 99
	_ = append(l, 98)
	check(t, x, "ab\ncd")
}

func TestP9_1Errors(t *testing.T) {
	const most = 1<<63 - 1
	long := strings.Repeat("\n", api.MaxText)
	if x, e := New(long + "x"); x != nil || e != api.ErrLong {
		t.Error(x, e)
	}
	check(t, index(t, long), long)
	x := index(t, "ab\ncd")
	for _, e := range []api.Edit{{At: -1}, {Del: -1}, {At: 6}, {At: 5, Del: 1}, {Del: 6}, {At: most, Del: most}, {At: 1, Del: most}, {At: -most - 1}, {Ins: 1}, {At: 1, Del: 1, Ins: -1}} {
		if got := x.Edit(e, ""); got != api.ErrArg {
			t.Errorf("Edit %v: %d", e, got)
		}
	}
	if got := x.Edit(api.Edit{Ins: 1}, "xy"); got != api.ErrArg {
		t.Error(got)
	}
	if got := x.Edit(api.Edit{}, "xy"); got != api.ErrArg {
		t.Error(got)
	}
	tooMuch := long[:api.MaxText-4]
	if got := x.Edit(api.Edit{At: 9, Ins: len(tooMuch)}, tooMuch); got != api.ErrArg {
		t.Error("ErrArg comes first:", got)
	}
	if got := x.Edit(api.Edit{At: 1, Ins: len(tooMuch)}, tooMuch); got != api.ErrLong {
		t.Error(got)
	}
	check(t, x, "ab\ncd")
	if got := x.Edit(api.Edit{At: 1, Del: 1, Ins: len(tooMuch)}, tooMuch); got != api.OK {
		t.Error(got)
	}
	check(t, x, "a"+tooMuch+"\ncd")
}

func TestP9_3Edits(t *testing.T) {
	r := rand.New(rand.NewSource(1))
	for range 150 {
		text := "a\nbc\n\nd"[:r.Intn(8)]
		x := index(t, text)
		for range 60 {
			at := r.Intn(len(text) + 1)
			del := r.Intn(min(len(text)-at, r.Intn(9)) + 1)
			l := make([]byte, r.Intn(5))
			for i := range l {
				l[i] = "x\n"[r.Intn(2)]
			}
			ins := string(l)
			if e := x.Edit(api.Edit{At: at, Del: del, Ins: len(ins)}, ins); e != api.OK {
				t.Fatal(e)
			}
			text = text[:at] + ins + text[at+del:]
			check(t, x, text)
			if !slices.Equal(x.Starts(), index(t, text).Starts()) {
				t.Fatal("the lines are not those of New of the text")
			}
		}
	}
}

func TestInvalidIndexes(t *testing.T) {
	copied := *index(t, "a\nb")
	for i, x := range []*Index{nil, {}, &copied} {
		start, ok1 := x.Start(0)
		line, column, ok2 := x.Line(0)
		at, ok3 := x.Place(0, 0)
		if x.Edit(api.Edit{}, "") != api.ErrNil || x.Edit(api.Edit{At: -1}, "") != api.ErrNil || x.Len() != 0 || x.Bytes() != 0 || start != 0 || ok1 || line != 0 || column != 0 || ok2 || at != 0 || ok3 || len(x.Starts()) != 0 {
			t.Errorf("%d: an invalid index does something", i)
		}
	}
}

func TestExamples(t *testing.T) {
	x := index(t, "a\nb")
	if l, c, ok := x.Line(2); l != 1 || c != 0 || !ok {
		t.Error(l, c, ok)
	}
	if l, c, ok := x.Line(1); l != 0 || c != 1 || !ok {
		t.Error(l, c, ok)
	}
	if e := x.Edit(api.Edit{Del: 1}, ""); e != api.OK || !slices.Equal(x.Starts(), []int{0, 1}) {
		t.Error(e, x.Starts())
	}
}
