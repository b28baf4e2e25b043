package rope

import (
	"iter"
	"strings"

	"indenture/utf"
)

// A leaf has at most most bytes; where there is more than one, each has at least least.
const (
	most  = 512
	least = most / 2
)

// rim is how many bytes a character has on one side of a place within it, at most.
const rim = 3

// counts is what is counted of a text. Its first and last bytes stand by, as a character may be made of the ends of two texts.
type counts struct {
	bytes, ends, steps int
	head, tail         string
}

// node is a tree of a text that has bytes: a leaf has the text itself, each other node has two within it, whose depths differ by 1 at most. It does not change. An empty text has no node.
type node struct {
	counts
	depth       int
	left, right *node
	text        string
}

// count goes through s, which has bytes.
func count(s string) counts {
	n := min(rim, len(s))
	return counts{
		bytes: len(s),
		ends:  strings.Count(s, "\n"),
		steps: utf.Count(s),
		head:  s[:n],
		tail:  s[len(s)-n:],
	}
}

// with is what is counted of the texts of a and b put together; each has least bytes, and so more than its rims.
func (a counts) with(b counts) counts {
	// What goes over the seam is lone bytes on both of its sides; each other step of the whole is one of a side.
	apart := utf.Count(a.tail) + utf.Count(b.head)
	return counts{
		bytes: a.bytes + b.bytes,
		ends:  a.ends + b.ends,
		steps: a.steps + b.steps - apart + utf.Count(a.tail+b.head),
		head:  a.head,
		tail:  b.tail,
	}
}

// grow is a tree of s.
func grow(s string) *node {
	var leaves []*node
	for piece := range pieces(s) {
		leaves = append(leaves, leaf(piece))
	}
	return stack(leaves)
}

// pieces goes over s in pieces that a leaf can have, as even as may be.
func pieces(s string) iter.Seq[string] {
	return func(yield func(string) bool) {
		n := (len(s) + most - 1) / most
		for i := range n {
			if !yield(s[i*len(s)/n : (i+1)*len(s)/n]) {
				return
			}
		}
	}
}

// stack is a tree of leaves.
func stack(leaves []*node) *node {
	switch len(leaves) {
	case 0:
		return nil
	case 1:
		return leaves[0]
	}
	half := len(leaves) / 2
	return pair(stack(leaves[:half]), stack(leaves[half:]))
}

// leaf has bytes of its own, so that it keeps no longer text that s was cut from.
func leaf(s string) *node {
	own := strings.Clone(s)
	return &node{counts: count(own), depth: 1, text: own}
}

// pair has two nodes whose depths differ by 1 at most.
func pair(left, right *node) *node {
	return &node{
		counts: left.with(right.counts),
		depth:  1 + max(left.depth, right.depth),
		left:   left,
		right:  right,
	}
}

// isLeaf tells whether n has a text itself.
func (n *node) isLeaf() bool { return n.left == nil }

// isSmall tells whether n is a leaf that may not stand beside another one.
func (n *node) isSmall() bool { return n.bytes < least }

// join is a tree of the texts of a and b put together; its depth is that of the deeper one, or 1 more.
func join(a, b *node) *node {
	switch {
	case a == nil:
		return b
	case b == nil:
		return a
	case a.isLeaf() && b.isLeaf() && (a.isSmall() || b.isSmall()):
		return grow(a.text + b.text)
	case a.depth > b.depth+1 || b.isSmall() && !a.isLeaf():
		return level(a.left, join(a.right, b))
	case b.depth > a.depth+1 || a.isSmall() && !b.isLeaf():
		return level(join(a, b.left), b.right)
	}
	return pair(a, b)
}

// level is a tree of two whose depths differ by 2 at most.
func level(a, b *node) *node {
	switch {
	case a.depth > b.depth+1 && a.right.depth > a.left.depth:
		return pair(pair(a.left, a.right.left), pair(a.right.right, b))
	case a.depth > b.depth+1:
		return pair(a.left, pair(a.right, b))
	case b.depth > a.depth+1 && b.left.depth > b.right.depth:
		return pair(pair(a, b.left.left), pair(b.left.right, b.right))
	case b.depth > a.depth+1:
		return pair(pair(a, b.left), b.right)
	}
	return pair(a, b)
}

// cut is a tree of the first at bytes of n, and one of those behind them.
func cut(n *node, at int) (*node, *node) {
	switch {
	case n == nil || at <= 0:
		return nil, n
	case at >= n.bytes:
		return n, nil
	case n.isLeaf():
		return leaf(n.text[:at]), leaf(n.text[at:])
	case at < n.left.bytes:
		ahead, behind := cut(n.left, at)
		return ahead, join(behind, n.right)
	}
	ahead, behind := cut(n.right, at-n.left.bytes)
	return join(n.left, ahead), behind
}

// byteAt is the byte at i, which is a place of one.
func (n *node) byteAt(i int) byte {
	for !n.isLeaf() {
		if i < n.left.bytes {
			n = n.left
		} else {
			i -= n.left.bytes
			n = n.right
		}
	}
	return n.text[i]
}

// write puts what n has from from on, and ahead of to, into b; these may lie outside of n.
func (n *node) write(b *strings.Builder, from, to int) {
	if n == nil || from >= n.bytes || to <= 0 {
		return
	}
	if n.isLeaf() {
		b.WriteString(n.text[max(from, 0):min(to, n.bytes)])
		return
	}
	n.left.write(b, from, to)
	n.right.write(b, from-n.left.bytes, to-n.left.bytes)
}

// behind is the place behind the first k LFs, which n has.
func (n *node) behind(k int) int {
	if k == 0 {
		return 0
	}
	at := 0
	for !n.isLeaf() {
		if k <= n.left.ends {
			n = n.left
		} else {
			k -= n.left.ends
			at += n.left.bytes
			n = n.right
		}
	}
	for i := 0; k > 0; i++ {
		if n.text[i] == '\n' {
			k--
		}
		at++
	}
	return at
}

// endsAhead is how many LFs stand ahead of at, which is a place of n.
func (n *node) endsAhead(at int) int {
	if n == nil {
		return 0
	}
	ends := 0
	for !n.isLeaf() {
		if at <= n.left.bytes {
			n = n.left
		} else {
			ends += n.left.ends
			at -= n.left.bytes
			n = n.right
		}
	}
	return ends + strings.Count(n.text[:at], "\n")
}
