package piece

import (
	"math/rand"
	"slices"
	"strings"
	"testing"

	"viewport/api"
)

func table(t *testing.T, s string) *Table {
	t.Helper()
	x, e := New(s)
	if e != api.OK {
		t.Fatal(e)
	}
	return x
}

// check holds a table against the text that it should have.
func check(t *testing.T, x *Table, want string) {
	t.Helper()
	if x.Text() != want || x.Len() != len(want) {
		t.Fatalf("%q, %d, not %q", x.Text(), x.Len(), want)
	}
	all := ""
	for s := range x.Pieces() {
		if s == "" {
			t.Fatal("an empty piece")
		}
		all += s
	}
	if all != want {
		t.Fatalf("the pieces are %q, not %q", all, want)
	}
}

func TestP8_1New(t *testing.T) {
	long := strings.Repeat("x", api.MaxText)
	for _, s := range []string{"", "a", "a\x00\xff\n", long} {
		check(t, table(t, s), s)
	}
	if x, e := New(long + "x"); x != nil || e != api.ErrLong {
		t.Error(x, e)
	}
}

func TestP8_1Errors(t *testing.T) {
	const most = 1<<63 - 1
	x := table(t, "abc")
	x.Edit(1, 1, "xy")
	for _, e := range [][2]int{{-1, 0}, {0, -1}, {0, 5}, {4, 1}, {5, 0}, {5, -1}, {most, 0}, {0, most}, {most, most}, {1, most}, {-most - 1, 1}, {2, -most - 1}} {
		if got := x.Edit(e[0], e[1], "z"); got != api.ErrArg {
			t.Errorf("Edit %v: %d", e, got)
		}
	}
	if e := x.Edit(-1, 0, strings.Repeat("z", api.MaxText+1)); e != api.ErrArg {
		t.Error("ErrArg comes first:", e)
	}
	for _, e := range [][2]int{{-1, 0}, {0, 5}, {3, 2}, {5, 5}, {-2, -1}, {0, most}, {-most - 1, most}} {
		if s, got := x.Slice(e[0], e[1]); s != "" || got != api.ErrArg {
			t.Errorf("Slice %v: %q, %d", e, s, got)
		}
	}
	for _, at := range []int{-1, 4, most, -most - 1} {
		if b, ok := x.Byte(at); b != 0 || ok {
			t.Errorf("Byte %d: %d, %v", at, b, ok)
		}
	}
	check(t, x, "axyc")
}

func TestP8_1Long(t *testing.T) {
	x := table(t, strings.Repeat("x", api.MaxText-2))
	if e := x.Edit(5, 0, "abc"); e != api.ErrLong || x.Len() != api.MaxText-2 {
		t.Error(e)
	}
	if e := x.Edit(5, 0, "ab"); e != api.OK {
		t.Error(e)
	}
	if e := x.Edit(5, 2, "abc"); e != api.ErrLong {
		t.Error(e)
	}
	if e := x.Edit(0, api.MaxText, strings.Repeat("y", api.MaxText)); e != api.OK || x.Text() != strings.Repeat("y", api.MaxText) {
		t.Error(e)
	}
	if e := x.Edit(0, api.MaxText, strings.Repeat("y", api.MaxText+1)); e != api.ErrLong {
		t.Error(e)
	}
}

func TestP8_3Edits(t *testing.T) {
	r := rand.New(rand.NewSource(1))
	for range 60 {
		text := "the original"[:r.Intn(13)]
		x := table(t, text)
		for range 120 {
			at := r.Intn(len(text) + 1)
			del := r.Intn(min(len(text)-at, r.Intn(12)) + 1)
			ins := strings.Repeat(string("abcdefgh\n\xff"[r.Intn(10)]), r.Intn(5))
			if e := x.Edit(at, del, ins); e != api.OK {
				t.Fatal(e)
			}
			text = text[:at] + ins + text[at+del:]
			if r.Intn(20) == 0 {
				x.Pack()
			}
			check(t, x, text)
			from := r.Intn(len(text) + 1)
			to := from + r.Intn(len(text)-from+1)
			if s, e := x.Slice(from, to); s != text[from:to] || e != api.OK {
				t.Fatalf("Slice of %q, %d, %d: %q, %d", text, from, to, s, e)
			}
			for at := range len(text) {
				if b, ok := x.Byte(at); b != text[at] || !ok {
					t.Fatalf("Byte %d of %q: %d", at, text, b)
				}
			}
		}
	}
}

func TestP8_3ManyEdits(t *testing.T) {
	x := table(t, "")
	ins := strings.Repeat("0123456789", 900)
	for i := range 200 {
		if e := x.Edit(0, x.Len(), ins[:len(ins)-i]); e != api.OK {
			t.Fatal(e)
		}
	}
	check(t, x, ins[:len(ins)-199])
	if len(x.added) > mostAdded {
		t.Error("deleted bytes pile up:", len(x.added))
	}
}

func TestP8_2Pieces(t *testing.T) {
	x := table(t, "abcdef")
	x.Edit(3, 0, "XY")
	seq := x.Pieces()
	x.Edit(0, 1, "")
	var got []string
	for s := range seq {
		if len(got) == 0 {
			x.Edit(0, x.Len(), "gone")
		}
		got = append(got, s)
	}
	if strings.Join(got, "") != "bcXYdef" {
		t.Errorf("the text as it was when the iteration began: %q", got)
	}
	got = nil
	for s := range seq {
		got = append(got, s)
		break
	}
	if !slices.Equal(got, []string{"gone"}) {
		t.Errorf("%q", got)
	}
}

func TestP8_2Pack(t *testing.T) {
	x := table(t, "abc")
	x.Edit(1, 1, "xy")
	if n := len(slices.Collect(x.Pieces())); n < 2 {
		t.Error("not in pieces")
	}
	x.Pack()
	if got := slices.Collect(x.Pieces()); !slices.Equal(got, []string{"axyc"}) {
		t.Errorf("%q", got)
	}
	check(t, x, "axyc")
	x.Edit(0, 4, "")
	x.Pack()
	if got := slices.Collect(x.Pieces()); len(got) != 0 {
		t.Errorf("%q", got)
	}
	if got := slices.Collect(table(t, "").Pieces()); len(got) != 0 {
		t.Errorf("%q", got)
	}
}

func TestP8_2Clone(t *testing.T) {
	x := table(t, "abc")
	x.Edit(1, 1, "xy")
	y := x.Clone()
	check(t, y, "axyc")
	x.Edit(0, 2, "1")
	y.Edit(2, 1, "22")
	check(t, x, "1yc")
	check(t, y, "ax22c")
	z := y.Clone()
	z.Edit(0, 0, "z")
	y.Pack()
	check(t, z, "zax22c")
	check(t, y, "ax22c")
}

func TestInvalidTables(t *testing.T) {
	copied := *table(t, "abc")
	for i, x := range []*Table{nil, {}, &copied} {
		s, e := x.Slice(0, 0)
		b, ok := x.Byte(0)
		x.Pack()
		if x.Edit(0, 0, "") != api.ErrNil || x.Edit(-1, 0, "") != api.ErrNil || s != "" || e != api.ErrNil || b != 0 || ok || x.Len() != 0 || x.Text() != "" || x.Clone() != nil || len(slices.Collect(x.Pieces())) != 0 {
			t.Errorf("%d: an invalid table does something", i)
		}
	}
}

func TestExamples(t *testing.T) {
	x := table(t, "abc")
	if e := x.Edit(1, 1, "xy"); e != api.OK {
		t.Error(e)
	}
	check(t, x, "axyc")
}
