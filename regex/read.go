package regex

import (
	"viewport/api"
	"viewport/class"
)

// frame is what has been read of an expression in parentheses, or of the whole one.
type frame struct {
	alts  []int // the alternatives that have ended
	items []int // those of the alternative that has not
}

// reader parses an expression. Its at is the byte to be read next, or the one at fault.
type reader struct {
	s     string
	at    int
	nodes api.Regex
	stack []frame
}

// Read returns the expression that s means and the length of s, or the error and the index of the byte at fault.
func Read(s string) (r api.Regex, at int, e api.Errno) {
	if len(s) > api.MaxRegex {
		return nil, 0, api.ErrLong
	}
	p := &reader{s: s, stack: make([]frame, 1)}
	for p.at < len(s) {
		if e := p.next(); e != api.OK {
			return nil, p.at, e
		}
	}
	if len(p.stack) > 1 {
		return nil, len(s), api.ErrMore
	}
	p.close()
	return p.nodes, len(s), api.OK
}

// signs returns the signs of the kinds of repetitions.
func signs() map[int]byte {
	return map[int]byte{api.NodeStar: '*', api.NodePlus: '+', api.NodeMaybe: '?'}
}

// top returns the innermost frame.
func (p *reader) top() *frame {
	return &p.stack[len(p.stack)-1]
}

// add appends a node, and returns its index.
func (p *reader) add(kind int, c api.Class, kids []int) int {
	p.nodes = append(p.nodes, api.Node{Kind: kind, Class: c, Kids: kids})
	return len(p.nodes) - 1
}

// item appends a node to the alternative that is being read.
func (p *reader) item(node int) {
	f := p.top()
	f.items = append(f.items, node)
}

// next reads one atom, one sign, or one byte that begins or ends alternatives.
func (p *reader) next() api.Errno {
	c := p.s[p.at]
	for kind, sign := range signs() {
		if c == sign {
			return p.repeat(kind)
		}
	}
	switch c {
	case '(':
		p.stack = append(p.stack, frame{})
	case ')':
		if len(p.stack) == 1 {
			return api.ErrText
		}
		node := p.close()
		p.stack = p.stack[:len(p.stack)-1]
		p.item(node)
	case '|':
		p.endAlternative()
	case ']':
		return api.ErrText
	default:
		return p.atom()
	}
	p.at++
	return api.OK
}

// repeat makes a repetition of the last item.
func (p *reader) repeat(kind int) api.Errno {
	items := p.top().items
	if len(items) == 0 {
		return api.ErrText
	}
	last := len(items) - 1
	items[last] = p.add(kind, api.Class{}, []int{items[last]})
	p.at++
	return api.OK
}

// endAlternative makes one node of the items of the innermost frame.
func (p *reader) endAlternative() {
	f := p.top()
	node := 0
	switch len(f.items) {
	case 0:
		node = p.add(api.NodeEmpty, api.Class{}, nil)
	case 1:
		node = f.items[0]
	default:
		node = p.add(api.NodeCat, api.Class{}, f.items)
	}
	f.alts = append(f.alts, node)
	// The node may have taken the items, so the next ones need memory of their own.
	f.items = nil
}

// close makes one node of the innermost frame, and returns its index.
func (p *reader) close() int {
	p.endAlternative()
	alts := p.top().alts
	if len(alts) == 1 {
		return alts[0]
	}
	return p.add(api.NodeAlt, api.Class{}, alts)
}

// atom reads a single byte, an escape, a dot or a class as an item.
func (p *reader) atom() api.Errno {
	var c api.Class
	switch p.s[p.at] {
	case '.':
		c = class.Not(class.Of("\n"))
		p.at++
	case '[':
		var e api.Errno
		if c, e = p.class(); e != api.OK {
			return e
		}
	default:
		b, e := p.member()
		if e != api.OK {
			return e
		}
		c = class.Range(b, b)
	}
	p.item(p.add(api.NodeClass, c, nil))
	return api.OK
}

// class reads from a [ up to its ].
func (p *reader) class() (api.Class, api.Errno) {
	var c api.Class
	p.at++
	not := p.sees(0, '^')
	if not {
		p.at++
	}
	for !p.sees(0, ']') {
		low, high, e := p.span()
		if e != api.OK {
			return api.Class{}, e
		}
		c = class.Union(c, class.Range(low, high))
	}
	p.at++
	if not {
		c = class.Not(c)
	}
	return c, api.OK
}

// span reads an item of a class: one byte, or the first and the last one.
func (p *reader) span() (low, high byte, e api.Errno) {
	if low, e = p.member(); e != api.OK {
		return 0, 0, e
	}
	if !p.sees(0, '-') || p.sees(1, ']') {
		return low, low, api.OK
	}
	p.at++
	begin := p.at
	if high, e = p.member(); e != api.OK {
		return 0, 0, e
	}
	if high < low {
		p.at = begin
		return 0, 0, api.ErrText
	}
	return low, high, api.OK
}

// sees reports whether the byte that comes after by others is b.
func (p *reader) sees(by int, b byte) bool {
	return p.at+by < len(p.s) && p.s[p.at+by] == b
}

// member reads a byte that means itself, or an escape.
func (p *reader) member() (byte, api.Errno) {
	if p.at == len(p.s) {
		return 0, api.ErrMore
	}
	b := p.s[p.at]
	p.at++
	if b == '\\' {
		return p.escape()
	}
	return b, api.OK
}

// escape reads what comes after a \.
func (p *reader) escape() (byte, api.Errno) {
	if p.at == len(p.s) {
		return 0, api.ErrMore
	}
	b := p.s[p.at]
	switch b {
	case 'n':
		b = '\n'
	case 't':
		b = '\t'
	case 'r':
		b = '\r'
	case 'x':
		return p.hex()
	default:
		if plain(b) {
			return 0, api.ErrText
		}
	}
	p.at++
	return b, api.OK
}

// hex reads an x and two digits.
func (p *reader) hex() (byte, api.Errno) {
	value := 0
	for range 2 {
		p.at++
		if p.at == len(p.s) {
			return 0, api.ErrMore
		}
		d, is := digit(p.s[p.at])
		if !is {
			return 0, api.ErrText
		}
		value = value*16 + d
	}
	p.at++
	return byte(value), api.OK
}

// digit returns the value of a hexadecimal digit.
func digit(b byte) (int, bool) {
	switch {
	case b >= '0' && b <= '9':
		return int(b - '0'), true
	case b >= 'a' && b <= 'f':
		return int(b-'a') + 10, true
	case b >= 'A' && b <= 'F':
		return int(b-'A') + 10, true
	}
	return 0, false
}

// plain reports whether b is a letter or a digit.
func plain(b byte) bool {
	return b >= '0' && b <= '9' || b >= 'a' && b <= 'z' || b >= 'A' && b <= 'Z'
}
