package regex

import (
	"math/rand"
	"slices"
	"strings"
	"testing"

	"viewport/api"
	"viewport/class"
)

func leaf(s string) api.Node {
	return api.Node{Kind: api.NodeClass, Class: class.Of(s)}
}

func node(kind int, kids ...int) api.Node {
	return api.Node{Kind: kind, Kids: kids}
}

// grow appends a random expression of about size nodes to r, in which parts are earlier nodes.
func grow(r *rand.Rand, nodes api.Regex, size int) api.Regex {
	if size <= 1 {
		switch r.Intn(6) {
		case 0:
			return append(nodes, node(api.NodeEmpty))
		case 1:
			return append(nodes, leaf("abc"[:r.Intn(4)]))
		}
		return append(nodes, leaf(string("abcd"[r.Intn(4)])))
	}
	kind := api.NodeCat + r.Intn(5)
	count := 1
	if kind <= api.NodeAlt {
		count = 2 + r.Intn(3)
	}
	var kids []int
	for range count {
		nodes = grow(r, nodes, r.Intn(size))
		kids = append(kids, len(nodes)-1)
	}
	return append(nodes, node(kind, kids...))
}

// shuffled returns the same expression with its nodes in another order, each after its parts.
func shuffled(r *rand.Rand, x api.Regex) api.Regex {
	place := make([]int, len(x))
	done := make([]bool, len(x))
	var out api.Regex
	for len(out) < len(x) {
		i := r.Intn(len(x))
		if done[i] || slices.ContainsFunc(x[i].Kids, func(k int) bool { return !done[k] }) {
			continue
		}
		n := api.Node{Kind: x[i].Kind, Class: x[i].Class}
		for _, k := range x[i].Kids {
			n.Kids = append(n.Kids, place[k])
		}
		place[i], done[i] = len(out), true
		out = append(out, n)
	}
	return out
}

// ends tells by recursion where a match of node i that begins at a position of s may end.
func ends(x api.Regex, i int, s string, at int) map[int]bool {
	out := map[int]bool{}
	n := x[i]
	switch n.Kind {
	case api.NodeEmpty:
		out[at] = true
	case api.NodeClass:
		if at < len(s) && class.Has(n.Class, s[at]) {
			out[at+1] = true
		}
	case api.NodeCat:
		out[at] = true
		for _, k := range n.Kids {
			next := map[int]bool{}
			for p := range out {
				for q := range ends(x, k, s, p) {
					next[q] = true
				}
			}
			out = next
		}
	case api.NodeAlt:
		for _, k := range n.Kids {
			for q := range ends(x, k, s, at) {
				out[q] = true
			}
		}
	case api.NodeMaybe:
		out = ends(x, n.Kids[0], s, at)
		out[at] = true
	default:
		todo := []int{at}
		seen := map[int]bool{at: true}
		if n.Kind == api.NodeStar {
			out[at] = true
		}
		for len(todo) > 0 {
			p := todo[0]
			todo = todo[1:]
			for q := range ends(x, n.Kids[0], s, p) {
				out[q] = true
				if !seen[q] {
					seen[q] = true
					todo = append(todo, q)
				}
			}
		}
	}
	return out
}

func TestP2_1Check(t *testing.T) {
	full := make(api.Regex, 0, api.MaxNodes+1)
	full = append(full, leaf("a"))
	for len(full) < api.MaxNodes {
		full = append(full, node(api.NodeStar, len(full)-1))
	}
	a := leaf("a")
	empty := node(api.NodeEmpty)
	stained := node(api.NodeStar, 0)
	stained.Class = class.Of("a")
	stainedEmpty := empty
	stainedEmpty.Class = class.Of("\x00")
	for i, x := range []struct {
		r    api.Regex
		want api.Errno
	}{
		{nil, api.ErrArg},
		{api.Regex{}, api.ErrArg},
		{api.Regex{empty}, api.OK},
		{api.Regex{a}, api.OK},
		{api.Regex{leaf("")}, api.OK},
		{full, api.OK},
		{append(slices.Clip(full), node(api.NodeStar, len(full)-1)), api.ErrArg},
		{api.Regex{{}}, api.ErrArg},
		{api.Regex{{Kind: 8}}, api.ErrArg},
		{api.Regex{{Kind: -1}}, api.ErrArg},
		{api.Regex{a, a}, api.ErrArg},
		{api.Regex{a, node(api.NodeStar, 0)}, api.OK},
		{api.Regex{a, node(api.NodePlus, 0)}, api.OK},
		{api.Regex{a, node(api.NodeMaybe, 0)}, api.OK},
		{api.Regex{node(api.NodeStar, 0)}, api.ErrArg},
		{api.Regex{node(api.NodeStar, 1), a}, api.ErrArg},
		{api.Regex{a, node(api.NodeStar, -1)}, api.ErrArg},
		{api.Regex{a, node(api.NodeStar)}, api.ErrArg},
		{api.Regex{a, a, node(api.NodeStar, 0, 1)}, api.ErrArg},
		{api.Regex{a, a, node(api.NodeStar, 0)}, api.ErrArg},
		{api.Regex{a, a, node(api.NodeCat, 0, 1)}, api.OK},
		{api.Regex{a, a, node(api.NodeAlt, 1, 0)}, api.OK},
		{api.Regex{a, node(api.NodeCat, 0)}, api.ErrArg},
		{api.Regex{a, node(api.NodeAlt, 0)}, api.ErrArg},
		{api.Regex{a, node(api.NodeCat)}, api.ErrArg},
		{api.Regex{a, node(api.NodeCat, 0, 0)}, api.ErrArg},
		{api.Regex{a, node(api.NodeStar, 0), node(api.NodeCat, 0, 1)}, api.ErrArg},
		{api.Regex{a, node(api.NodeStar, 0), a, node(api.NodeCat, 1, 2)}, api.OK},
		{api.Regex{a, node(api.NodeStar, 0), a, node(api.NodeCat, 0, 2)}, api.ErrArg},
		{api.Regex{a, node(api.NodeClass, 0)}, api.ErrArg},
		{api.Regex{a, node(api.NodeEmpty, 0)}, api.ErrArg},
		{api.Regex{a, stained}, api.ErrArg},
		{api.Regex{stainedEmpty}, api.ErrArg},
		{api.Regex{a, node(api.NodeStar, 1<<40)}, api.ErrArg},
	} {
		if got := Check(x.r); got != x.want {
			t.Errorf("%d: Check: %d, not %d", i, got, x.want)
		}
	}
}

func TestP2_1Read(t *testing.T) {
	all := class.Not(api.Class{})
	dot := class.Not(class.Of("\n"))
	of := func(c api.Class) api.Node { return api.Node{Kind: api.NodeClass, Class: c} }
	a, b, c := leaf("a"), leaf("b"), leaf("c")
	empty := node(api.NodeEmpty)
	for s, want := range map[string]api.Regex{
		"":               {empty},
		"()":             {empty},
		"(())":           {empty},
		"a":              {a},
		"(a)":            {a},
		"ab":             {a, b, node(api.NodeCat, 0, 1)},
		"(a)b":           {a, b, node(api.NodeCat, 0, 1)},
		"(ab)c":          {a, b, node(api.NodeCat, 0, 1), c, node(api.NodeCat, 2, 3)},
		"abc":            {a, b, c, node(api.NodeCat, 0, 1, 2)},
		"a|b":            {a, b, node(api.NodeAlt, 0, 1)},
		"a|b|c":          {a, b, c, node(api.NodeAlt, 0, 1, 2)},
		"a|(b|c)":        {a, b, c, node(api.NodeAlt, 1, 2), node(api.NodeAlt, 0, 3)},
		"|":              {empty, empty, node(api.NodeAlt, 0, 1)},
		"a|":             {a, empty, node(api.NodeAlt, 0, 1)},
		"()a":            {empty, a, node(api.NodeCat, 0, 1)},
		"ab|c":           {a, b, node(api.NodeCat, 0, 1), c, node(api.NodeAlt, 2, 3)},
		"a*":             {a, node(api.NodeStar, 0)},
		"a+":             {a, node(api.NodePlus, 0)},
		"a?":             {a, node(api.NodeMaybe, 0)},
		"a*+?":           {a, node(api.NodeStar, 0), node(api.NodePlus, 1), node(api.NodeMaybe, 2)},
		"ab*":            {a, b, node(api.NodeStar, 1), node(api.NodeCat, 0, 2)},
		"(ab)*":          {a, b, node(api.NodeCat, 0, 1), node(api.NodeStar, 2)},
		"()*":            {empty, node(api.NodeStar, 0)},
		".":              {of(dot)},
		"-":              {leaf("-")},
		"^":              {leaf("^")},
		"{}$":            {leaf("{"), leaf("}"), leaf("$"), node(api.NodeCat, 0, 1, 2)},
		"\n":             {leaf("\n")},
		"\x00":           {leaf("\x00")},
		"\xff":           {leaf("\xff")},
		`\n`:             {leaf("\n")},
		`\t`:             {leaf("\t")},
		`\r`:             {leaf("\r")},
		`\x0a`:           {leaf("\n")},
		`\xfF`:           {leaf("\xff")},
		`\xaB`:           {leaf("\xab")},
		`\xA9`:           {leaf("\xa9")},
		`\x9A`:           {leaf("\x9a")},
		`\x41B`:          {leaf("A"), leaf("B"), node(api.NodeCat, 0, 1)},
		`\.`:             {leaf(".")},
		`\\`:             {leaf(`\`)},
		`\(`:             {leaf("(")},
		"\\\xe4":         {leaf("\xe4")},
		"\\\n":           {leaf("\n")},
		`\_`:             {leaf("_")},
		"[]":             {leaf("")},
		"[^]":            {of(all)},
		"[a]":            {a},
		"[^a]":           {of(class.Not(class.Of("a")))},
		"[^^]":           {of(class.Not(class.Of("^")))},
		"[a^]":           {leaf("a^")},
		"[abc]":          {leaf("abc")},
		"[a-c]":          {leaf("abc")},
		"[a-a]":          {a},
		"[a-cx-z]":       {leaf("abcxyz")},
		"[a-]":           {leaf("a-")},
		"[-a]":           {leaf("-a")},
		"[-]":            {leaf("-")},
		"[--/]":          {leaf("-./")},
		"[+--]":          {leaf("+,-")},
		"[a-c-]":         {leaf("abc-")},
		"[a-c-e]":        {leaf("abc-e")},
		"[[]":            {leaf("[")},
		"[.*+?|()]":      {leaf(".*+?|()")},
		`[\]]`:           {leaf("]")},
		`[\\]`:           {leaf(`\`)},
		`[\n\x41-\x43]`:  {leaf("\nABC")},
		`[\x61-c]`:       {leaf("abc")},
		`[a-\x63]`:       {leaf("abc")},
		`[\[-\]]`:        {leaf(`[\]`)},
		"[aa]":           {a},
		"[\x00-\xff]":    {of(all)},
		`[\x00-\xff]`:    {of(all)},
		"[a\n]":          {leaf("a\n")},
		"[^\n]":          {of(dot)},
		"(a|b)*c":        {a, b, node(api.NodeAlt, 0, 1), node(api.NodeStar, 2), c, node(api.NodeCat, 3, 4)},
		"(|a)(b|)":       {empty, a, node(api.NodeAlt, 0, 1), b, empty, node(api.NodeAlt, 3, 4), node(api.NodeCat, 2, 5)},
		"((a)|((b)))(c)": {a, b, node(api.NodeAlt, 0, 1), c, node(api.NodeCat, 2, 3)},
	} {
		r, at, e := Read(s)
		if e != api.OK || at != len(s) || !Same(r, want) {
			t.Errorf("Read(%q): %v, %d, %d", s, r, at, e)
		}
	}
}

func TestP2_1ReadErrors(t *testing.T) {
	long := strings.Repeat("a", api.MaxRegex)
	for _, x := range []struct {
		s    string
		at   int
		want api.Errno
	}{
		{long, 256, api.OK},
		{long + "a", 0, api.ErrLong},
		{long + "(", 0, api.ErrLong},
		{")", 0, api.ErrText}, {"a)", 1, api.ErrText}, {"(a))", 3, api.ErrText}, {"(a)b)c(", 4, api.ErrText},
		{"]", 0, api.ErrText}, {"a]", 1, api.ErrText}, {"(]", 1, api.ErrText}, {"[a]]", 3, api.ErrText},
		{"*", 0, api.ErrText}, {"+", 0, api.ErrText}, {"?", 0, api.ErrText},
		{"a|*", 2, api.ErrText}, {"(*a)", 1, api.ErrText}, {"(a|?b)", 3, api.ErrText}, {"|+", 1, api.ErrText},
		{"(", 1, api.ErrMore}, {"a(b", 3, api.ErrMore}, {"(a|", 3, api.ErrMore}, {"((a)", 4, api.ErrMore},
		{"[", 1, api.ErrMore}, {"[^", 2, api.ErrMore}, {"[a", 2, api.ErrMore}, {"[a-", 3, api.ErrMore}, {"[a-b", 4, api.ErrMore},
		{"[^]]", 3, api.ErrText}, {"[]]", 2, api.ErrText},
		{`\`, 1, api.ErrMore}, {`a\`, 2, api.ErrMore}, {`[\`, 2, api.ErrMore}, {`[a-\`, 4, api.ErrMore},
		{`\x`, 2, api.ErrMore}, {`\x1`, 3, api.ErrMore}, {`[\x`, 3, api.ErrMore}, {`[\xa`, 4, api.ErrMore},
		{`\a`, 1, api.ErrText}, {`\z`, 1, api.ErrText}, {`\A`, 1, api.ErrText}, {`\9`, 1, api.ErrText}, {`\Z`, 1, api.ErrText}, {`\0`, 1, api.ErrText}, {`\N`, 1, api.ErrText}, {`\X41`, 1, api.ErrText},
		{`\xg1`, 2, api.ErrText}, {`\x1g`, 3, api.ErrText}, {`ab\x)`, 4, api.ErrText}, {`\x1)`, 3, api.ErrText}, {`\x:0`, 2, api.ErrText}, {"\\x`0", 2, api.ErrText}, {`\x@0`, 2, api.ErrText}, {`\x/0`, 2, api.ErrText}, {`\xG0`, 2, api.ErrText},
		{`[\q]`, 2, api.ErrText}, {`[a-\q]`, 4, api.ErrText}, {`[\xzz]`, 3, api.ErrText},
		{"[b-a]", 3, api.ErrText}, {`[b-\x61]`, 3, api.ErrText}, {"[a--]", 3, api.ErrText}, {"[xb-a", 4, api.ErrText}, {`[\x62-a]`, 6, api.ErrText},
		{"[b-a", 3, api.ErrText}, {`[b-\x6`, 6, api.ErrMore}, {`[b-\x6h`, 6, api.ErrText},
		{"(a", 2, api.ErrMore}, {"(*", 1, api.ErrText}, {"([b-a])", 4, api.ErrText},
	} {
		r, at, e := Read(x.s)
		if e != x.want || at != x.at || e != api.OK && r != nil {
			t.Errorf("Read(%q): %v, %d, %d, not %d, %d", x.s, r, at, e, x.at, x.want)
		}
	}
}

func TestP2_2Text(t *testing.T) {
	a, b, c := leaf("a"), leaf("b"), leaf("c")
	empty := node(api.NodeEmpty)
	for want, r := range map[string]api.Regex{
		"()":                   {empty},
		"a":                    {a},
		"Z":                    {leaf("Z")},
		"0":                    {leaf("0")},
		"9":                    {leaf("9")},
		"A":                    {leaf("A")},
		"z":                    {leaf("z")},
		`[\x5f]`:               {leaf("_")},
		"[]":                   {leaf("")},
		"[ab]":                 {leaf("ab")},
		"[a-c]":                {leaf("abc")},
		"[acd]":                {leaf("acd")},
		"[a-ce]":               {leaf("abce")},
		"[a-cef]":              {leaf("abcef")},
		`[\x00-\xff]`:          {{Kind: api.NodeClass, Class: class.Not(api.Class{})}},
		`[\x00-\x09\x0b-\xff]`: {{Kind: api.NodeClass, Class: class.Not(class.Of("\n"))}},
		`[\x2d\x5d]`:           {leaf("-]")},
		`[9\x40\xfe\xff]`:      {leaf("\xff\xfe@9")},
		`[\x2f-\x3a]`:          {{Kind: api.NodeClass, Class: class.Range('/', ':')}},
		"abc":                  {a, b, c, node(api.NodeCat, 0, 1, 2)},
		"cab":                  {a, b, c, node(api.NodeCat, 2, 0, 1)},
		"(ab)c":                {a, b, node(api.NodeCat, 0, 1), c, node(api.NodeCat, 2, 3)},
		"(a|b)c":               {a, b, node(api.NodeAlt, 0, 1), c, node(api.NodeCat, 2, 3)},
		"()a":                  {empty, a, node(api.NodeCat, 0, 1)},
		"a*b":                  {a, node(api.NodeStar, 0), b, node(api.NodeCat, 1, 2)},
		"a|b|c":                {a, b, c, node(api.NodeAlt, 0, 1, 2)},
		"(a|b)|c":              {a, b, node(api.NodeAlt, 0, 1), c, node(api.NodeAlt, 2, 3)},
		"ab|c":                 {a, b, node(api.NodeCat, 0, 1), c, node(api.NodeAlt, 2, 3)},
		"()|a+":                {empty, a, node(api.NodePlus, 1), node(api.NodeAlt, 0, 2)},
		"()*":                  {empty, node(api.NodeStar, 0)},
		"a+":                   {a, node(api.NodePlus, 0)},
		"[ab]?":                {leaf("ab"), node(api.NodeMaybe, 0)},
		"(a*)?":                {a, node(api.NodeStar, 0), node(api.NodeMaybe, 1)},
		"(a+)*":                {a, node(api.NodePlus, 0), node(api.NodeStar, 1)},
		"(a?)+":                {a, node(api.NodeMaybe, 0), node(api.NodePlus, 1)},
		"(ab)*":                {a, b, node(api.NodeCat, 0, 1), node(api.NodeStar, 2)},
		"(a|b)*":               {a, b, node(api.NodeAlt, 0, 1), node(api.NodeStar, 2)},
		"[ab][ab][ab]":         {leaf("ab"), leaf("ab"), leaf("ab"), node(api.NodeCat, 0, 1, 2)},
	} {
		if got, e := Text(r); got != want || e != api.OK {
			t.Errorf("Text of %v: %q, %d, not %q", r, got, e, want)
		}
	}
	for _, r := range []api.Regex{nil, {}, {{}}, {a, b}, {node(api.NodeStar, 0)}} {
		if s, e := Text(r); s != "" || e != api.ErrArg {
			t.Errorf("Text of %v: %q, %d", r, s, e)
		}
	}
}

func TestP2_2Leaves(t *testing.T) {
	x := api.Regex{leaf("c"), leaf("a"), node(api.NodeStar, 1), node(api.NodeEmpty), leaf(""), node(api.NodeAlt, 4, 3, 0), leaf("bd"), node(api.NodeCat, 2, 5, 6)}
	want := []api.Class{class.Of("a"), class.Of(""), class.Of("c"), class.Of("bd")}
	if got := Leaves(x); !slices.Equal(got, want) {
		t.Error(got)
	}
	if len(Leaves(api.Regex{node(api.NodeEmpty)})) != 0 || len(Leaves(nil)) != 0 || len(Leaves(api.Regex{leaf("a"), leaf("a")})) != 0 {
		t.Error("leaves where there are none")
	}
}

func TestP2_2Matches(t *testing.T) {
	r := rand.New(rand.NewSource(1))
	for range 3000 {
		x := shuffled(r, grow(r, nil, 1+r.Intn(9)))
		if len(x) > api.MaxNodes {
			continue
		}
		if Nullable(x) != ends(x, len(x)-1, "", 0)[0] {
			t.Fatalf("Nullable of %v: %v", x, Nullable(x))
		}
		for range 6 {
			s := make([]byte, r.Intn(6))
			for i := range s {
				s[i] = "abcd"[r.Intn(4)]
			}
			want := ends(x, len(x)-1, string(s), 0)[len(s)]
			if got := Matches(x, string(s)); got != want {
				text, _ := Text(x)
				t.Fatalf("Matches(%s, %q): %v", text, s, got)
			}
		}
	}
}

func TestP2_2MatchesTable(t *testing.T) {
	for _, x := range []struct {
		r, s string
		want bool
	}{
		{"", "", true}, {"", "a", false}, {"[]", "", false}, {"[]", "a", false}, {"[]*", "", true},
		{"a", "a", true}, {"a", "", false}, {"a", "aa", false}, {".", "\n", false}, {".", "\xff", true},
		{"a*", "aaaa", true}, {"a+", "", false}, {"(ab)+", "ababab", true}, {"(ab)+", "aba", false},
		{"(a*b*)*c?", "abbabac", true}, {"(a|b)*abb", "babaabb", true}, {"(a|b)*abb", "babaab", false},
		{"(a?b?c?)+d", "cabd", true}, {"((a|)(b|))*", "bbaab", true}, {"a()b", "ab", true},
	} {
		r, _, e := Read(x.r)
		if e != api.OK || Matches(r, x.s) != x.want {
			t.Errorf("%q matches %q: %v", x.r, x.s, !x.want)
		}
	}
	long := strings.Repeat("ab", 1<<15)
	r, _, _ := Read("(" + strings.Repeat("(a|b)*|", 30) + "c)*")
	if !Matches(r, long) || Matches(r, long+"d") {
		t.Error("a long string")
	}
	for _, bad := range []api.Regex{nil, {{}}, {leaf("a"), leaf("a")}} {
		if Matches(bad, "") || Matches(bad, "a") || Nullable(bad) {
			t.Errorf("%v is not valid", bad)
		}
	}
}

func TestP2_2Same(t *testing.T) {
	r := rand.New(rand.NewSource(2))
	for range 500 {
		x := grow(r, nil, 1+r.Intn(9))
		y := shuffled(r, x)
		if !Same(x, y) || !Same(y, x) {
			t.Fatalf("%v, %v are the same", x, y)
		}
		z := grow(r, nil, 1+r.Intn(9))
		tx, _ := Text(x)
		tz, _ := Text(z)
		if Same(x, z) != (tx == tz) {
			t.Fatalf("Same of %s, %s: %v", tx, tz, tx != tz)
		}
	}
	a, b := leaf("a"), leaf("b")
	ab := api.Regex{a, b, node(api.NodeCat, 0, 1)}
	for _, no := range []api.Regex{nil, {a}, {a, b, node(api.NodeCat, 1, 0)}, {a, b, node(api.NodeAlt, 0, 1)}, {a, a, node(api.NodeCat, 0, 1)}, {a, b, a, node(api.NodeCat, 0, 1, 2)}} {
		if Same(ab, no) || Same(no, ab) {
			t.Errorf("%v is not %v", ab, no)
		}
	}
	if !Same(ab, api.Regex{b, a, node(api.NodeCat, 1, 0)}) {
		t.Error("the same in another order")
	}
	bad := api.Regex{a, b}
	if Same(bad, bad) || Same(nil, nil) || Same(bad, ab[:2:2]) || Same(api.Regex{a, a, node(api.NodeCat, 0, 0)}, ab) || Same(ab, api.Regex{a, b, node(api.NodeCat, 0, 5)}) {
		t.Error("sequences that are not valid are not the same")
	}
}

func TestP2_3ReadOfText(t *testing.T) {
	r := rand.New(rand.NewSource(3))
	for range 2000 {
		x := shuffled(r, grow(r, nil, 1+r.Intn(10)))
		for i := range x {
			if x[i].Kind == api.NodeClass && r.Intn(2) == 0 {
				low := r.Intn(256)
				x[i].Class = class.Range(byte(low), byte(low+r.Intn(256-low)))
			}
		}
		s, e := Text(x)
		if e != api.OK {
			continue
		}
		y, at, e := Read(s)
		if len(s) > api.MaxRegex {
			if e != api.ErrLong {
				t.Fatal("a long text is read")
			}
			continue
		}
		if e != api.OK || at != len(s) || !Same(x, y) {
			t.Fatalf("%q is read as %v, %d, %d", s, y, at, e)
		}
		if Nullable(x) != Matches(x, "") {
			t.Fatalf("%q: Nullable is not Matches of the empty string", s)
		}
	}
	junk := `()[]|*+?\.^-xnafz0` + "\n\xff"
	for range 20000 {
		s := make([]byte, r.Intn(9))
		for i := range s {
			s[i] = junk[r.Intn(len(junk))]
		}
		x, at, e := Read(string(s))
		if e != api.OK {
			if at < 0 || at > len(s) || e == api.ErrMore && at != len(s) || e == api.ErrText && at == len(s) {
				t.Fatalf("Read(%q): %d, %d", s, at, e)
			}
			continue
		}
		if Check(x) != api.OK || at != len(s) {
			t.Fatalf("Read(%q): %v, %d", s, x, at)
		}
		text, _ := Text(x)
		if y, _, e := Read(text); len(text) <= api.MaxRegex && (e != api.OK || !Same(x, y)) {
			t.Fatalf("%q and %q are not the same", s, text)
		}
	}
}

func TestArgumentsAreLeft(t *testing.T) {
	x := api.Regex{leaf("a"), leaf("b"), node(api.NodeCat, 0, 1)}
	x[2].Kids = append(make([]int, 0, 8), 0, 1)
	Check(x)
	Text(x)
	Matches(x, "ab")
	Leaves(x)
	Same(x, x)
	if spare := x[2].Kids[:8]; !slices.Equal(spare, []int{0, 1, 0, 0, 0, 0, 0, 0}) {
		t.Error(spare)
	}
	y, _, _ := Read("(ab|cd)*(e|f)")
	for i, n := range y {
		for j := range n.Kids[:cap(n.Kids)] {
			n.Kids[:cap(n.Kids)][j] = -7
			for k, m := range y {
				if k != i && slices.Contains(m.Kids[:cap(m.Kids)], -7) {
					t.Fatal("nodes share memory")
				}
			}
			n.Kids[:cap(n.Kids)][j] = 0
		}
	}
}

func TestExamples(t *testing.T) {
	r, at, e := Read("(a|b)*c")
	if s, _ := Text(r); s != "(a|b)*c" || at != 7 || e != api.OK {
		t.Error(s, at, e)
	}
	if _, at, e := Read("a(b"); at != 3 || e != api.ErrMore {
		t.Error(at, e)
	}
	if _, at, e := Read("a)"); at != 1 || e != api.ErrText {
		t.Error(at, e)
	}
}
