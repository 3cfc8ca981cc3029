package class

import (
	"math/rand"
	"slices"
	"sort"
	"strings"
	"testing"

	"viewport/api"
)

// model is a class as a table of 256 bools, which the tests hold the bits against.
type model [256]bool

func modelOf(s string) model {
	var m model
	for i := range len(s) {
		m[s[i]] = true
	}
	return m
}

func (m model) bytes() string {
	var l []byte
	for b := range 256 {
		if m[b] {
			l = append(l, byte(b))
		}
	}
	return string(l)
}

func randomBytes(r *rand.Rand) string {
	l := make([]byte, r.Intn(1+r.Intn(300)))
	low, span := r.Intn(256), 1+r.Intn(256)
	for i := range l {
		l[i] = byte(low + r.Intn(span))
	}
	return string(l)
}

func TestP1_1Of(t *testing.T) {
	for _, s := range []string{"", "a", "cba", "aa", "\x00", "\xff", "\x3f\x40\x7f\x80\xbf\xc0", "a\x00b"} {
		c, m := Of(s), modelOf(s)
		if Bytes(c) != m.bytes() {
			t.Errorf("Bytes of Of(%q): %q", s, Bytes(c))
		}
		for b := range 256 {
			if Has(c, byte(b)) != m[b] {
				t.Errorf("Has(Of(%q), %d): %v", s, b, !m[b])
			}
		}
	}
	if Of("\x00\x3f") != (api.Class{1<<63 | 1}) || Of("\x40") != (api.Class{0, 1}) || Of("\xff") != (api.Class{0, 0, 0, 1 << 63}) {
		t.Error("a byte b is bit b%64 of word b/64")
	}
}

func TestP1_1Range(t *testing.T) {
	edges := []int{0, 1, 62, 63, 64, 65, 97, 127, 128, 191, 192, 254, 255}
	for _, low := range edges {
		for _, high := range edges {
			var m model
			for b := low; b <= high; b++ {
				m[b] = true
			}
			if got := Bytes(Range(byte(low), byte(high))); got != m.bytes() {
				t.Errorf("Range(%d, %d): %q", low, high, got)
			}
		}
	}
}

func TestP1_1Algebra(t *testing.T) {
	r := rand.New(rand.NewSource(1))
	for range 300 {
		s, u := randomBytes(r), randomBytes(r)
		a, b := modelOf(s), modelOf(u)
		var union, meet, not model
		n := 0
		for i := range 256 {
			union[i], meet[i], not[i] = a[i] || b[i], a[i] && b[i], !a[i]
			if a[i] {
				n++
			}
		}
		if got := Bytes(Union(Of(s), Of(u))); got != union.bytes() {
			t.Errorf("Union of %q, %q: %q", s, u, got)
		}
		if got := Bytes(Meet(Of(s), Of(u))); got != meet.bytes() {
			t.Errorf("Meet of %q, %q: %q", s, u, got)
		}
		if got := Bytes(Not(Of(s))); got != not.bytes() {
			t.Errorf("Not of %q: %q", s, got)
		}
		if Len(Of(s)) != n {
			t.Errorf("Len of %q: %d, not %d", s, Len(Of(s)), n)
		}
		if got := string(slices.Collect(Each(Of(s)))); got != a.bytes() {
			t.Errorf("Each of %q: %q", s, got)
		}
	}
	if Len(api.Class{}) != 0 || Len(Not(api.Class{})) != 256 || Bytes(api.Class{}) != "" || len(Bytes(Not(api.Class{}))) != 256 {
		t.Error("the empty class and that of all bytes")
	}
}

func TestP1_1Least(t *testing.T) {
	for _, x := range []struct {
		s    string
		want byte
		is   bool
	}{{"", 0, false}, {"\x00", 0, true}, {"zq", 'q', true}, {"\xff", 255, true}, {"\xff\x40", 64, true}, {"\x80\xbf", 128, true}} {
		if b, is := Least(Of(x.s)); b != x.want || is != x.is {
			t.Errorf("Least of %q: %d, %v", x.s, b, is)
		}
	}
}

func TestP1_1Compare(t *testing.T) {
	for _, x := range []struct {
		a, b string
		want int
	}{
		{"", "", 0}, {"", "a", -1}, {"a", "", 1}, {"ab", "ba", 0},
		{"a", "ab", -1}, {"ab", "a", 1}, {"ab", "b", -1}, {"b", "ac", 1},
		{"a\xff", "b", -1}, {"\x01\x40", "\x01\x80", -1}, {"\x01\x80", "\x01\x7f", 1},
	} {
		if got := Compare(Of(x.a), Of(x.b)); got != x.want {
			t.Errorf("Compare of %q, %q: %d", x.a, x.b, got)
		}
	}
	r := rand.New(rand.NewSource(2))
	for range 300 {
		a, b := Of(randomBytes(r)), Of(randomBytes(r))
		if got, want := Compare(a, b), strings.Compare(Bytes(a), Bytes(b)); got != want {
			t.Errorf("Compare of %q, %q: %d, not %d", Bytes(a), Bytes(b), got, want)
		}
	}
}

func TestP1_1EachCanBeLeft(t *testing.T) {
	var got []byte
	for b := range Each(Of("\x01a\x80\xff")) {
		got = append(got, b)
		if b == 'a' {
			break
		}
	}
	if string(got) != "\x01a" {
		t.Errorf("%q", got)
	}
	seq := Each(Of("xyz"))
	if a, b := string(slices.Collect(seq)), string(slices.Collect(seq)); a != "xyz" || b != "xyz" {
		t.Errorf("ranged over twice: %q, %q", a, b)
	}
}

// naiveSplit goes through the bytes and compares each with the first one of every part.
func naiveSplit(l []api.Class) []string {
	var parts [][]byte
next:
	for b := range 256 {
	part:
		for i, p := range parts {
			for _, c := range l {
				if Has(c, byte(b)) != Has(c, p[0]) {
					continue part
				}
			}
			parts[i] = append(p, byte(b))
			continue next
		}
		parts = append(parts, []byte{byte(b)})
	}
	out := []string{}
	for _, p := range parts {
		out = append(out, string(p))
	}
	return out
}

func TestP1_2Split(t *testing.T) {
	all := Not(api.Class{})
	lists := [][]api.Class{nil, {}, {{}}, {all}, {{}, all}, {Of("a")}, {Of("\x00")}, {Of("\xff")}, {Of("ab"), Of("bc")}, {Of("a"), Of("a")}}
	r := rand.New(rand.NewSource(3))
	for range 60 {
		var l []api.Class
		for range r.Intn(12) {
			l = append(l, Of(randomBytes(r)))
		}
		lists = append(lists, l)
	}
	var single []api.Class
	for b := range 256 {
		single = append(single, Of(string([]byte{byte(255 - b)})))
	}
	for _, l := range append(lists, single) {
		before := slices.Clone(l)
		var got []string
		for _, c := range Split(l) {
			got = append(got, Bytes(c))
		}
		if want := naiveSplit(l); !slices.Equal(got, want) {
			t.Errorf("Split of %v:\n%q\nnot\n%q", l, got, want)
		}
		if !slices.Equal(before, l) {
			t.Error("Split changed its argument")
		}
	}
}

func TestP1_3Partition(t *testing.T) {
	r := rand.New(rand.NewSource(4))
	for range 60 {
		var l []api.Class
		for range r.Intn(9) {
			l = append(l, Of(randomBytes(r)))
		}
		var seen [256]int
		parts := Split(l)
		for _, c := range parts {
			for b := range Each(c) {
				seen[b]++
			}
		}
		for b, n := range seen {
			if n != 1 {
				t.Fatalf("byte %d is in %d parts", b, n)
			}
		}
		for _, c := range l {
			var u api.Class
			for _, p := range parts {
				if m := Meet(p, c); m == p {
					u = Union(u, p)
				}
			}
			if u != c {
				t.Fatalf("%q is no union of parts", Bytes(c))
			}
		}
		if !sort.SliceIsSorted(parts, func(i, j int) bool {
			a, _ := Least(parts[i])
			b, _ := Least(parts[j])
			return a < b
		}) {
			t.Fatal("the parts are not ordered by their smallest bytes")
		}
	}
}

func TestExamples(t *testing.T) {
	if got := Bytes(Union(Of("cb"), Range('a', 'b'))); got != "abc" {
		t.Errorf("%q", got)
	}
	if l := Split([]api.Class{Of("a")}); len(l) != 2 || l[0] != Not(Of("a")) || l[1] != Of("a") {
		t.Error(l)
	}
}
