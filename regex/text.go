package regex

import (
	"slices"
	"strings"

	"viewport/api"
	"viewport/class"
)

// Text returns the text of r.
func Text(r api.Regex) (string, api.Errno) {
	if e := Check(r); e != api.OK {
		return "", e
	}
	texts := make([]string, len(r))
	for i, n := range r {
		switch n.Kind {
		case api.NodeEmpty:
			texts[i] = "()"
		case api.NodeClass:
			texts[i] = classText(n.Class)
		case api.NodeCat:
			texts[i] = strings.Join(partTexts(r, n, texts), "")
		case api.NodeAlt:
			texts[i] = strings.Join(partTexts(r, n, texts), "|")
		default:
			texts[i] = partTexts(r, n, texts)[0] + string(signs()[n.Kind])
		}
	}
	return texts[len(r)-1], api.OK
}

// partTexts returns the texts of the parts of a node, in parentheses where they need them.
func partTexts(r api.Regex, n api.Node, texts []string) []string {
	var out []string
	for _, k := range n.Kids {
		text := texts[k]
		if slices.Contains(wrapped(n.Kind), r[k].Kind) {
			text = "(" + text + ")"
		}
		out = append(out, text)
	}
	return out
}

// wrapped returns the kinds of parts that are in parentheses in a node of a kind.
func wrapped(kind int) []int {
	switch kind {
	case api.NodeCat:
		return []int{api.NodeCat, api.NodeAlt}
	case api.NodeAlt:
		return []int{api.NodeAlt}
	}
	return []int{api.NodeCat, api.NodeAlt, api.NodeStar, api.NodePlus, api.NodeMaybe}
}

// classText returns a single letter or digit, or the runs of bytes in brackets.
func classText(c api.Class) string {
	all := class.Bytes(c)
	if len(all) == 1 && plain(all[0]) {
		return all
	}
	var out strings.Builder
	out.WriteByte('[')
	for len(all) > 0 {
		n := runLength(all)
		out.WriteString(byteText(all[0]))
		if n > 2 {
			out.WriteByte('-')
		}
		if n > 1 {
			out.WriteString(byteText(all[n-1]))
		}
		all = all[n:]
	}
	out.WriteByte(']')
	return out.String()
}

// runLength returns the number of consecutive bytes with which s begins.
func runLength(s string) int {
	n := 1
	for n < len(s) && s[n-1]+1 == s[n] {
		n++
	}
	return n
}

// byteText returns a byte as it stands in a class.
func byteText(b byte) string {
	if plain(b) {
		return string([]byte{b})
	}
	const digits = "0123456789abcdef"
	return string([]byte{'\\', 'x', digits[b>>4], digits[b&15]})
}
