package rope

import (
	"strings"
	"testing"
	"unsafe"

	"indenture/api"
)

// sound tells of each node of a rope whether it is what its remark says; it answers the text.
func sound(t *testing.T, n *node, alone bool) string {
	t.Helper()
	if n == nil {
		return ""
	}
	if n.isLeaf() {
		if n.depth != 1 || n.right != nil || n.counts != count(n.text) {
			t.Fatalf("a leaf of %d bytes has the depth %d and counts %v", len(n.text), n.depth, n.counts)
		}
		if len(n.text) == 0 || len(n.text) > most || !alone && len(n.text) < least {
			t.Fatalf("a leaf has %d bytes", len(n.text))
		}
		return n.text
	}
	left, right := n.left.depth, n.right.depth
	if n.depth != 1+max(left, right) || left > right+1 || right > left+1 {
		t.Fatalf("a node of the depth %d has nodes of %d and %d", n.depth, left, right)
	}
	s := sound(t, n.left, false) + sound(t, n.right, false)
	if n.counts != count(s) {
		t.Fatalf("a node of %d bytes counts %v", len(s), n.counts)
	}
	return s
}

// P2.6: whatever is spliced, depths stay level, and leaves neither too short nor too long.
func TestTreesStaySound(t *testing.T) {
	seed := uint64(6)
	turn := func(n int) int {
		seed = seed*6364136223846793005 + 1442695040888963407
		return int(seed >> 33 % uint64(n))
	}
	spare := strings.Repeat("ab\n\xe2\x82\xac\xff\xc3\xa9\n\n\xf0\x9f\x98\x80", 6000)
	for _, piece := range []int{1, 30, 700, 9000, 60000} {
		r := Of("")
		for step := range 600 {
			n := r.Len()
			pos := turn(n + 1)
			del := 0
			if step%3 == 2 || n > 150000 {
				del = turn(n - pos + 1)
			}
			next, err := r.Splice(api.Edit{Pos: pos, Del: del, Ins: spare[turn(3000):][:turn(piece+1)]})
			if err != api.OK {
				t.Fatalf("Splice = %v", err)
			}
			r = next
			if s := sound(t, r.root, true); len(s) != r.Len() || step%50 == 0 && s != r.Text() {
				t.Fatalf("the nodes have %d bytes of %d", len(s), r.Len())
			}
			if r.root != nil && r.Depth() != r.root.depth {
				t.Fatalf("Depth = %d of a tree of the depth %d", r.Depth(), r.root.depth)
			}
		}
	}
}

// R3: no leaf has bytes that are those of what was handed in.
func TestLeavesHaveTheirOwnBytes(t *testing.T) {
	s := strings.Repeat("abc\n", 2000)
	r, err := Of(s).Splice(api.Edit{Pos: 9, Ins: s})
	if err != api.OK {
		t.Fatalf("Splice = %v", err)
	}
	from := uintptr(unsafe.Pointer(unsafe.StringData(s)))
	var walk func(*node)
	walk = func(n *node) {
		if !n.isLeaf() {
			walk(n.left)
			walk(n.right)
			return
		}
		at := uintptr(unsafe.Pointer(unsafe.StringData(n.text)))
		if at >= from && at < from+uintptr(len(s)) {
			t.Fatalf("a leaf keeps the byte %d of what was handed in", at-from)
		}
	}
	walk(r.root)
}
