package tree_test

import (
	"encoding/binary"
	"fmt"
	"hash/fnv"
	"math"
	"slices"
	"strconv"
	"strings"
	"testing"

	"indenture/api"
	"indenture/tree"
)

// far are numbers that are no places, neither of a list nor of a text.
var far = []int{math.MinInt, math.MinInt + 1, -1 << 62, -1 << 40, -api.MaxText, -2, -1, api.MaxText + 1, 1 << 40, 1 << 62, math.MaxInt - 1, math.MaxInt}

// list is a list of nodes, of each its depth, kind, From and To.
func list(numbers ...int) []api.Node {
	var l []api.Node
	for i := 0; i+3 < len(numbers); i += 4 {
		l = append(l, api.Node{Depth: numbers[i], Kind: uint8(numbers[i+1]), From: numbers[i+2], To: numbers[i+3]})
	}
	return l
}

// example is the tree of the chapter's examples.
func example() []api.Node {
	return list(0, 1, 0, 5, 1, 10, 0, 2, 2, 11, 0, 2, 1, 10, 2, 5)
}

// turn goes on to the next number of a row that looks unordered, and answers one from 0 to n - 1.
func turn(seed *uint64, n int) int {
	*seed = *seed*6364136223846793005 + 1442695040888963407
	return int(*seed >> 33 % uint64(n))
}

// parent is the last node ahead of the node i whose depth is one less; -1, if there is none.
func parent(l []api.Node, i int) int {
	for j := i - 1; j >= 0; j-- {
		if l[j].Depth == l[i].Depth-1 {
			return j
		}
	}
	return -1
}

// isTree is what Check tells, as the words say it.
func isTree(l []api.Node, n int) bool {
	if n < 0 || n > api.MaxText || len(l) == 0 || l[0].Kind != api.KindText || l[0].From != 0 || l[0].To != n || l[0].Depth != 0 {
		return false
	}
	for i := 1; i < len(l); i++ {
		x := l[i]
		if x.Depth < 1 || x.Depth-1 > l[i-1].Depth {
			return false
		}
		up := parent(l, i)
		if x.From < l[up].From || x.To > l[up].To || x.From > x.To {
			return false
		}
		for j := 1; j < i; j++ {
			if l[j].Depth == x.Depth && parent(l, j) == up && x.From < l[j].To {
				return false
			}
		}
	}
	return true
}

// lies tells whether the node i lies within the node j, or is it.
func lies(l []api.Node, i, j int) bool {
	for i > j {
		i = parent(l, i)
	}
	return i == j
}

// sum is what Hash tells.
func sum(l []api.Node, i int) uint64 {
	h := fnv.New64a()
	for j := i; j < len(l); j++ {
		if !lies(l, j, i) {
			continue
		}
		for _, x := range []int{int(l[j].Kind), l[j].Depth - l[i].Depth, l[j].From - l[i].From, l[j].To - l[i].From} {
			h.Write(binary.LittleEndian.AppendUint64(nil, uint64(x)))
		}
	}
	return h.Sum64()
}

// printed is what Print tells.
func printed(l []api.Node) string {
	var b strings.Builder
	for _, x := range l {
		fmt.Fprintf(&b, "%d %d %d %d\n", x.Depth, x.Kind, x.From, x.To)
	}
	return b.String()
}

// show tells a list that is not too long.
func show(l []api.Node) string {
	if len(l) > 50 {
		return fmt.Sprintf("a list of %d nodes", len(l))
	}
	return strconv.Quote(printed(l))
}

// refused holds all calls of a list at a place against an error, and their other results against zero.
func refused(t *testing.T, l []api.Node, i int, want api.Errno) {
	t.Helper()
	up, err := tree.Up(l, i)
	if up != 0 || err != want {
		t.Fatalf("Up(%s, %d) = %d, %d, not error %d", show(l), i, up, err, want)
	}
	kids, err := tree.Kids(l, i)
	if len(kids) != 0 || err != want {
		t.Fatalf("Kids(%s, %d) = %v, %d, not error %d", show(l), i, kids, err, want)
	}
	path, err := tree.Path(l, i)
	if len(path) != 0 || err != want {
		t.Fatalf("Path(%s, %d) = %v, %d, not error %d", show(l), i, path, err, want)
	}
	hash, err := tree.Hash(l, i)
	if hash != 0 || err != want {
		t.Fatalf("Hash(%s, %d) = %d, %d, not error %d", show(l), i, hash, err, want)
	}
}

// nowhere holds At against an error.
func nowhere(t *testing.T, l []api.Node, q int, want api.Errno) {
	t.Helper()
	if at, err := tree.At(l, q); at != 0 || err != want {
		t.Fatalf("At(%s, %d) = %d, %d, not error %d", show(l), q, at, err, want)
	}
}

// noTree holds all calls of a list that is no tree against ErrTree, wherever they ask.
func noTree(t *testing.T, l []api.Node) {
	t.Helper()
	for _, i := range append([]int{0, 1, len(l) - 1, len(l)}, far...) {
		refused(t, l, i, api.ErrTree)
		nowhere(t, l, i, api.ErrTree)
	}
	if leaves, err := tree.Leaves(l); len(leaves) != 0 || err != api.ErrTree {
		t.Fatalf("Leaves(%s) = %v, %d, not ErrTree", show(l), leaves, err)
	}
	if text, err := tree.Print(l); text != "" || err != api.ErrTree {
		t.Fatalf("Print(%s) = %q, %d, not ErrTree", show(l), text, err)
	}
}

// aTree holds all that is told of a tree against what the words say.
func aTree(t *testing.T, l []api.Node) {
	t.Helper()
	n := l[0].To
	if err := tree.Check(l, n); err != api.OK {
		t.Fatalf("Check(%s, %d) = %d", show(l), n, err)
	}
	var leaves []int
	for i := range l {
		if node(t, l, i) {
			leaves = append(leaves, i)
		}
	}
	if got, err := tree.Leaves(l); !slices.Equal(got, leaves) || err != api.OK {
		t.Fatalf("Leaves(%s) = %v, %d, not %v", show(l), got, err, leaves)
	}
	for q := range n + 1 {
		place(t, l, q)
	}
	for _, i := range append([]int{len(l), len(l) + 1}, far...) {
		refused(t, l, i, api.ErrRange)
	}
	for _, q := range append([]int{n + 1}, far...) {
		nowhere(t, l, q, api.ErrRange)
	}
	back(t, l)
}

// node holds what is told of a tree's node against what the words say; whether it is a leaf.
func node(t *testing.T, l []api.Node, i int) bool {
	t.Helper()
	up, err := tree.Up(l, i)
	if i == 0 && (up != 0 || err != api.ErrNone) || i > 0 && (up != parent(l, i) || err != api.OK) {
		t.Fatalf("Up(%s, %d) = %d, %d", show(l), i, up, err)
	}
	var kids, path []int
	for j := range l {
		if j > 0 && parent(l, j) == i {
			kids = append(kids, j)
		}
		if lies(l, i, j) {
			path = append([]int{j}, path...)
		}
	}
	if got, err := tree.Kids(l, i); !slices.Equal(got, kids) || err != api.OK {
		t.Fatalf("Kids(%s, %d) = %v, %d, not %v", show(l), i, got, err, kids)
	}
	if got, err := tree.Path(l, i); !slices.Equal(got, path) || err != api.OK {
		t.Fatalf("Path(%s, %d) = %v, %d, not %v", show(l), i, got, err, path)
	}
	if got, err := tree.Hash(l, i); got != sum(l, i) || err != api.OK {
		t.Fatalf("Hash(%s, %d) = %d, %d, not %d", show(l), i, got, err, sum(l, i))
	}
	return len(kids) == 0
}

// place holds what At tells of a place against what the words say.
func place(t *testing.T, l []api.Node, q int) {
	t.Helper()
	want, depth := 0, -1
	for i, x := range l {
		if x.From <= q && q <= x.To && x.Depth > depth {
			want, depth = i, x.Depth
		}
	}
	if got, err := tree.At(l, q); got != want || err != api.OK {
		t.Fatalf("At(%s, %d) = %d, %d, not %d", show(l), q, got, err, want)
	}
}

// back holds a tree's text, and what is read of it, against what the words say.
func back(t *testing.T, l []api.Node) {
	t.Helper()
	text, err := tree.Print(l)
	if text != printed(l) || err != api.OK {
		t.Fatalf("Print(%s) = %q, %d", show(l), text, err)
	}
	if got, err := tree.Parse(text); !slices.Equal(got, l) || err != api.OK {
		t.Fatalf("Parse of Print(%s) = %v, %d", show(l), got, err)
	}
}

// either holds all that is told of a list against what it is: a tree of its size, or none.
func either(t *testing.T, l []api.Node) {
	t.Helper()
	if len(l) > 0 && isTree(l, l[0].To) {
		aTree(t, l)
	} else {
		noTree(t, l)
	}
}

// P6.1 to P6.4: the examples of the chapter.
func TestExamples(t *testing.T) {
	l := example()
	for n, want := range map[int]api.Errno{5: api.OK, 6: api.ErrTree} {
		if err := tree.Check(l, n); err != want {
			t.Errorf("Check(t, %d) = %d", n, err)
		}
	}
	if err := tree.Check(nil, 0); err != api.ErrTree {
		t.Errorf("Check(nothing, 0) = %d", err)
	}
	if up, err := tree.Up(l, 2); up != 1 || err != api.OK {
		t.Errorf("Up(t, 2) = %d, %d", up, err)
	}
	if up, err := tree.Up(l, 0); up != 0 || err != api.ErrNone {
		t.Errorf("Up(t, 0) = %d, %d", up, err)
	}
	if kids, err := tree.Kids(l, 0); !slices.Equal(kids, []int{1, 3}) || err != api.OK {
		t.Errorf("Kids(t, 0) = %v, %d", kids, err)
	}
	if path, err := tree.Path(l, 2); !slices.Equal(path, []int{2, 1, 0}) || err != api.OK {
		t.Errorf("Path(t, 2) = %v, %d", path, err)
	}
	if leaves, err := tree.Leaves(l); !slices.Equal(leaves, []int{2, 3}) || err != api.OK {
		t.Errorf("Leaves(t) = %v, %d", leaves, err)
	}
	for q, want := range []int{2, 2, 2, 3, 3, 3} {
		if at, err := tree.At(l, q); at != want || err != api.OK {
			t.Errorf("At(t, %d) = %d, %d", q, at, err)
		}
	}
	nowhere(t, l, 6, api.ErrRange)
	if text, err := tree.Print(l); text != "0 1 0 5\n1 10 0 2\n2 11 0 2\n1 10 2 5\n" || err != api.OK {
		t.Errorf("Print(t) = %q, %d", text, err)
	}
	for s, want := range map[string]api.Errno{"0 1 0 0\n": api.OK, "0 1 0 0": api.ErrForm, "0 1 0 00\n": api.ErrForm, "0 2 0 0\n": api.ErrTree} {
		if _, err := tree.Parse(s); err != want {
			t.Errorf("Parse(%q) = %d", s, err)
		}
	}
	aTree(t, l)
}

// P6.1: lists that are trees of n bytes, and such as are none: no list and an empty one, roots, depths, places; each with the one thing that is wrong in it.
func TestCheck(t *testing.T) {
	const last = api.MaxText
	for _, x := range []struct {
		l    []api.Node
		n    int
		want api.Errno
	}{
		{nil, 0, api.ErrTree}, {[]api.Node{}, 0, api.ErrTree}, {nil, -1, api.ErrTree}, {list(0, 1, 0, 0), 0, api.OK}, {list(0, 1, 0, 1), 1, api.OK}, {list(0, 1, 0, last), last, api.OK},
		{list(0, 1, 0, last+1), last + 1, api.ErrTree}, {list(0, 1, 0, -1), -1, api.ErrTree}, {list(0, 1, 0, math.MaxInt), math.MaxInt, api.ErrTree}, {list(0, 1, 0, math.MinInt), math.MinInt, api.ErrTree},
		{list(0, 1, 0, 5), 4, api.ErrTree}, {list(0, 1, 0, 5), 6, api.ErrTree}, {list(0, 1, 0, 5), 0, api.ErrTree}, {list(0, 1, 0, 0), last, api.ErrTree},
		{list(0, 0, 0, 5), 5, api.ErrTree}, {list(0, 2, 0, 5), 5, api.ErrTree}, {list(0, 255, 0, 5), 5, api.ErrTree}, {list(1, 1, 0, 5), 5, api.ErrTree}, {list(-1, 1, 0, 5), 5, api.ErrTree}, {list(0, 1, 1, 5), 5, api.ErrTree}, {list(0, 1, -1, 5), 5, api.ErrTree}, {list(0, 1, 5, 5), 5, api.ErrTree},
		{list(0, 1, 0, 5, 1, 10, 0, 5), 5, api.OK}, {list(0, 1, 0, 5, 1, 1, 0, 5), 5, api.OK}, {list(0, 1, 0, 5, 1, 0, 0, 5), 5, api.OK}, {list(0, 1, 0, 5, 1, 255, 2, 3), 5, api.OK}, {list(0, 1, 0, 5, 1, 10, 0, 0), 5, api.OK}, {list(0, 1, 0, 5, 1, 10, 5, 5), 5, api.OK}, {list(0, 1, 0, 0, 1, 10, 0, 0, 2, 10, 0, 0), 0, api.OK},
		{list(0, 1, 0, 5, 0, 10, 0, 5), 5, api.ErrTree}, {list(0, 1, 0, 5, -1, 10, 0, 5), 5, api.ErrTree}, {list(0, 1, 0, 5, math.MinInt, 10, 0, 5), 5, api.ErrTree}, {list(0, 1, 0, 5, 2, 10, 0, 5), 5, api.ErrTree}, {list(0, 1, 0, 5, 3, 10, 0, 5), 5, api.ErrTree}, {list(0, 1, 0, 5, math.MaxInt, 10, 0, 5), 5, api.ErrTree},
		{list(0, 1, 0, 5, 1, 10, 0, 2, 3, 10, 0, 2), 5, api.ErrTree}, {list(0, 1, 0, 5, 1, 10, 0, 2, 2, 10, 0, 2, 4, 10, 0, 2), 5, api.ErrTree}, {list(0, 1, 0, 5, 1, 10, 0, 2, 2, 10, 0, 2, 0, 10, 2, 5), 5, api.ErrTree}, {list(0, 1, 0, 5, 1, 10, 0, 2, 2, 10, 0, 2, 1, 10, 2, 5, 3, 10, 2, 3), 5, api.ErrTree},
		{list(0, 1, 0, 5, 1, 10, -1, 2), 5, api.ErrTree}, {list(0, 1, 0, 5, 1, 10, 0, 6), 5, api.ErrTree}, {list(0, 1, 0, 5, 1, 10, 6, 6), 5, api.ErrTree}, {list(0, 1, 0, 5, 1, 10, 3, 2), 5, api.ErrTree}, {list(0, 1, 0, 5, 1, 10, -2, -1), 5, api.ErrTree}, {list(0, 1, 0, 5, 1, 10, math.MinInt, math.MaxInt), 5, api.ErrTree}, {list(0, 1, 0, 5, 1, 10, math.MaxInt, math.MinInt), 5, api.ErrTree},
		{list(0, 1, 0, 5, 1, 10, 2, 4, 2, 10, 2, 4), 5, api.OK}, {list(0, 1, 0, 5, 1, 10, 2, 4, 2, 10, 1, 4), 5, api.ErrTree}, {list(0, 1, 0, 5, 1, 10, 2, 4, 2, 10, 2, 5), 5, api.ErrTree}, {list(0, 1, 0, 5, 1, 10, 2, 4, 2, 10, 4, 4), 5, api.OK}, {list(0, 1, 0, 5, 1, 10, 2, 4, 2, 10, 5, 5), 5, api.ErrTree}, {list(0, 1, 0, 5, 1, 10, 2, 4, 2, 10, 4, 3), 5, api.ErrTree},
		{list(0, 1, 0, 5, 1, 10, 0, 2, 1, 10, 2, 5), 5, api.OK}, {list(0, 1, 0, 5, 1, 10, 0, 2, 1, 10, 3, 5), 5, api.OK}, {list(0, 1, 0, 5, 1, 10, 0, 2, 1, 10, 1, 5), 5, api.ErrTree}, {list(0, 1, 0, 5, 1, 10, 0, 2, 1, 10, 0, 0), 5, api.ErrTree}, {list(0, 1, 0, 5, 1, 10, 0, 2, 1, 10, 2, 2, 1, 10, 2, 2, 1, 10, 2, 3), 5, api.OK}, {list(0, 1, 0, 5, 1, 10, 3, 4, 1, 10, 0, 2), 5, api.ErrTree},
		{list(0, 1, 0, 5, 1, 10, 0, 4, 1, 10, 4, 4, 1, 10, 3, 5), 5, api.ErrTree}, {list(0, 1, 0, 5, 1, 10, 0, 4, 2, 10, 0, 1, 2, 10, 1, 2, 1, 10, 3, 5), 5, api.ErrTree}, {list(0, 1, 0, 5, 1, 10, 0, 4, 2, 10, 0, 3, 1, 10, 4, 5, 2, 10, 4, 5), 5, api.OK}, {list(0, 1, 0, 5, 1, 10, 0, 2, 2, 10, 0, 2, 1, 10, 2, 5, 2, 10, 1, 5), 5, api.ErrTree},
		{list(0, 1, 0, 5, 1, 10, 0, 4, 2, 10, 0, 3, 3, 10, 0, 3, 2, 10, 2, 4), 5, api.ErrTree}, {list(0, 1, 0, 5, 1, 10, 0, 4, 2, 10, 0, 3, 3, 10, 0, 1, 2, 10, 3, 4), 5, api.OK},
		{list(0, 1, 0, last, 1, 10, last, last), last, api.OK}, {list(0, 1, 0, last, 1, 10, last, last+1), last, api.ErrTree},
	} {
		if err := tree.Check(x.l, x.n); err != x.want {
			t.Errorf("Check(%s, %d) = %d, not %d", show(x.l), x.n, err, x.want)
		}
		if isTree(x.l, x.n) != (x.want == api.OK) {
			t.Errorf("%s of %d bytes is tested wrongly", show(x.l), x.n)
		}
		for _, n := range append([]int{x.n - 1, x.n + 1}, far...) {
			if err := tree.Check(x.l, n); (err == api.OK) != isTree(x.l, n) || err != api.OK && err != api.ErrTree {
				t.Errorf("Check(%s, %d) = %d", show(x.l), n, err)
			}
		}
		if len(x.l) == 0 || x.l[0].To < 100 {
			either(t, x.l)
		}
	}
}

// P6.1 to P6.6: so it is with all lists of a root and at most three short nodes.
func TestShortLists(t *testing.T) {
	var nodes []api.Node
	for depth := range 5 {
		for from := range 4 {
			for to := range 4 {
				nodes = append(nodes, api.Node{Kind: uint8(10 + from), Depth: depth, From: from - 1, To: to})
			}
		}
	}
	trees := 0
	hold := func(l []api.Node) {
		is := isTree(l, l[0].To)
		if err := tree.Check(l, l[0].To); (err == api.OK) != is {
			t.Fatalf("Check(%s) = %d", show(l), err)
		}
		if is {
			aTree(t, l)
			trees++
		}
	}
	root := api.Node{Kind: api.KindText, To: 2}
	hold([]api.Node{root})
	for _, a := range nodes {
		hold([]api.Node{root, a})
		either(t, []api.Node{a})
		for _, b := range nodes {
			hold([]api.Node{root, a, b})
			for _, c := range nodes {
				hold([]api.Node{root, a, b, c})
			}
		}
	}
	if trees < 100 {
		t.Errorf("just %d trees among them", trees)
	}
}

// grow puts nodes that a tree may have behind l, within a node from from to to of a depth.
func grow(seed *uint64, l []api.Node, depth, from, to, budget int) []api.Node {
	for range turn(seed, budget+1) {
		a := from + turn(seed, to-from+1)
		b := a + turn(seed, to-a+1)
		l = append(l, api.Node{Kind: uint8(turn(seed, 256)), Depth: depth, From: a, To: b})
		if budget > 1 {
			l = grow(seed, l, depth+1, a, b, budget-1)
		}
		from = b
	}
	return l
}

// P6.1 to P6.6: trees of many nodes; and such lists in which one number is another one.
func TestManyTrees(t *testing.T) {
	seed := uint64(3)
	for range 1500 {
		n := turn(&seed, 40)
		l := grow(&seed, list(0, 1, 0, n), 1, 0, n, 1+turn(&seed, 4))
		if len(l) > 150 {
			continue
		}
		aTree(t, l)
		for range 10 {
			bad := slices.Clone(l)
			x, by := &bad[turn(&seed, len(l))], 1+turn(&seed, 3)
			if turn(&seed, 2) == 0 {
				by = -by
			}
			switch turn(&seed, 3) {
			case 0:
				x.From += by
			case 1:
				x.To += by
			default:
				x.Depth += by
			}
			if is := isTree(bad, bad[0].To); is != (tree.Check(bad, bad[0].To) == api.OK) {
				t.Fatalf("Check(%s)", show(bad))
			} else if !is {
				noTree(t, bad)
			}
		}
	}
}

// P6.2, P6.5: which error comes first, of the root, of nodes that there are not, and of a list that is no tree.
func TestErrorsInOrder(t *testing.T) {
	for _, l := range [][]api.Node{nil, {}, list(0, 2, 0, 0), list(1, 1, 0, 0), list(0, 1, 1, 1), list(0, 1, 0, api.MaxText+1), list(0, 1, 0, 5, 0, 1, 0, 5), list(0, 1, 0, -1)} {
		noTree(t, l)
	}
	for _, l := range [][]api.Node{list(0, 1, 0, 0), list(0, 1, 0, 5), example()} {
		for _, i := range append([]int{len(l), len(l) + 1}, far...) {
			refused(t, l, i, api.ErrRange)
		}
		for _, q := range append([]int{l[0].To + 1}, far...) {
			nowhere(t, l, q, api.ErrRange)
		}
		if up, err := tree.Up(l, 0); up != 0 || err != api.ErrNone {
			t.Errorf("Up of the root = %d, %d", up, err)
		}
	}
}

// P6.2: wide trees, deep ones, nodes whose elder ones are deep.
func TestUpKidsPathLeaves(t *testing.T) {
	l := list(0, 1, 0, 9, 1, 10, 0, 3, 2, 10, 0, 2, 3, 10, 1, 2, 2, 10, 2, 3, 1, 11, 4, 4, 1, 12, 4, 9, 2, 10, 5, 9, 3, 10, 6, 7, 3, 10, 8, 9)
	for i, want := range [][]int{{0}, {1, 0}, {2, 1, 0}, {3, 2, 1, 0}, {4, 1, 0}, {5, 0}, {6, 0}, {7, 6, 0}, {8, 7, 6, 0}, {9, 7, 6, 0}} {
		if path, err := tree.Path(l, i); !slices.Equal(path, want) || err != api.OK {
			t.Errorf("Path(%d) = %v, %d", i, path, err)
		}
		if up, err := tree.Up(l, i); i > 0 && (up != want[1] || err != api.OK) {
			t.Errorf("Up(%d) = %d, %d", i, up, err)
		}
	}
	for i, want := range [][]int{{1, 5, 6}, {2, 4}, {3}, nil, nil, nil, {7}, {8, 9}, nil, nil} {
		if kids, err := tree.Kids(l, i); !slices.Equal(kids, want) || err != api.OK {
			t.Errorf("Kids(%d) = %v, %d", i, kids, err)
		}
	}
	if leaves, err := tree.Leaves(l); !slices.Equal(leaves, []int{3, 4, 5, 8, 9}) || err != api.OK {
		t.Errorf("Leaves = %v, %d", leaves, err)
	}
	if leaves, err := tree.Leaves(list(0, 1, 0, 0)); !slices.Equal(leaves, []int{0}) || err != api.OK {
		t.Errorf("Leaves of a root alone = %v, %d", leaves, err)
	}
	aTree(t, l)
}

// P6.3: places at which one node ends and the next begins, in a gap, ahead of all nodes and behind them; empty nodes, nodes of one place, a deep node that is not the first one.
func TestAt(t *testing.T) {
	for _, x := range []struct {
		l    []api.Node
		want []int
	}{
		{list(0, 1, 0, 0), []int{0}}, {list(0, 1, 0, 2), []int{0, 0, 0}}, {list(0, 1, 0, 0, 1, 10, 0, 0, 1, 10, 0, 0), []int{1}}, {list(0, 1, 0, 0, 1, 10, 0, 0, 1, 10, 0, 0, 2, 10, 0, 0), []int{3}},
		{list(0, 1, 0, 4, 1, 10, 1, 3), []int{0, 1, 1, 1, 0}}, {list(0, 1, 0, 4, 1, 10, 0, 2, 1, 11, 2, 4), []int{1, 1, 1, 2, 2}}, {list(0, 1, 0, 4, 1, 10, 0, 1, 1, 11, 3, 4), []int{1, 1, 0, 2, 2}},
		{list(0, 1, 0, 4, 1, 10, 0, 2, 1, 11, 2, 4, 2, 11, 2, 3), []int{1, 1, 3, 3, 2}}, {list(0, 1, 0, 4, 1, 10, 0, 2, 2, 10, 0, 1, 1, 11, 2, 4), []int{2, 2, 1, 3, 3}}, {list(0, 1, 0, 4, 1, 10, 0, 2, 2, 10, 1, 2, 1, 11, 2, 4, 2, 10, 2, 2), []int{1, 2, 2, 3, 3}},
		{list(0, 1, 0, 4, 1, 10, 2, 2), []int{0, 0, 1, 0, 0}}, {list(0, 1, 0, 2, 1, 10, 1, 1, 1, 11, 1, 1, 1, 12, 1, 2), []int{0, 1, 3}}, {list(0, 1, 0, 3, 1, 10, 0, 3, 2, 10, 0, 3, 3, 10, 0, 3), []int{3, 3, 3, 3}}, {list(0, 1, 0, 3, 1, 10, 0, 3, 2, 10, 1, 2), []int{1, 2, 2, 1}},
	} {
		for q, want := range x.want {
			if at, err := tree.At(x.l, q); at != want || err != api.OK {
				t.Errorf("At(%s, %d) = %d, %d, not %d", show(x.l), q, at, err, want)
			}
		}
		aTree(t, x.l)
	}
}

// P6.4: texts that have not the form, whatever they would tell.
func TestTextsWithoutTheForm(t *testing.T) {
	long := strings.Repeat("9", 100000)
	for _, s := range []string{
		"0", "0 ", "0 1", "0 1 0", "0 1 0 ", "0 1 0 0", "0 1 0 0\n1", "0 1 0 0\n1 10 0 0", "\n", "\n0 1 0 0\n", "0 1 0 0\n\n", "0 1 0 0\n\n1 10 0 0\n", "0 1 0\n", "0 1\n", "0\n", "0 1 0 0 0\n", "0 1 0 0 \n", "0 1 0 \n", "0 1 0 0\n1 10 0\n", "0 1 0 0\n1 10 0 0 0\n", "0 1 0 0 1 10 0 0\n",
		"0  1 0 0\n", "0 1  0 0\n", "0 1 0  0\n", " 0 1 0 0\n", "0 1 0 0\n 1 10 0 0\n", "0 1 0 0\n1 10 0 0 \n", " \n", "    \n", "   ", " ", "0\t1 0 0\n", "0 1 0\n0\n", "0 1\n0 0\n", "0,1,0,0\n", "0\x001 0 0\n",
		"00 1 0 0\n", "0 01 0 0\n", "0 1 00 0\n", "0 1 0 00\n", "0 1 0 01\n", "0 1 0 5\n1 010 0 2\n", "0 1 0 5\n1 10 0 02\n", "0 1 0 000000000000000000000000000\n", "0 1 0 0" + strings.Repeat("0", 100000) + "\n",
		"+0 1 0 0\n", "-0 1 0 0\n", "0 +1 0 0\n", "0 -1 0 0\n", "0 1 -0 0\n", "0 1 0 -1\n", "0 1 0 +1\n", "0 1 0 0x1\n", "0 1 0 1e1\n", "0 1 0 1_0\n", "0 1 0 1.0\n", "0 1 0 a\n", "0 1 0 0a\n", "a 1 0 0\n", "0 1 0 /\n", "0 1 0 :\n", "0 1 0 \xff\n", "0 1 0 0\xff\n", "0 1 0 \xd9\xa1\n", "\xef\xbb\xbf0 1 0 0\n",
		"0 1 0 0\r\n", "0 1 0 0\r", "0 1 0 0\n\r", "0 1 0 0\r1 10 0 0\n", "0 1 0 0\n1 10 0 0\r\n", "\r\n",
		"0 256 0 0\n", "0 257 0 0\n", "0 1000 0 0\n", "0 1 0 0\n1 256 0 0\n", "0 512 0 0\n", "0 1099511627776 0 0\n", "0 1099511627777 0 0\n",
		"0 1 0 1099511627777\n", "0 1 1099511627777 0\n", "1099511627777 1 0 0\n", "0 1 0 0\n1 10 0 1099511627777\n", "0 1 0 9223372036854775807\n", "0 1 0 9223372036854775808\n", "0 1 0 18446744073709551616\n", "0 18446744073709551617 0 0\n", "18446744073709551616 1 0 0\n", "0 1 18446744073709551616 0\n",
		"0 1 0 " + long + "\n", "0 1 " + long + " 0\n", "0 " + long + " 0 0\n", long + " 1 0 0\n", long, "0 1 0 0\n" + long + "\n", "0 1 0 1" + strings.Repeat("0", 64) + "\n", "0 1 0 340282366920938463463374607431768211456\n",
		// What stands ahead tells no tree: the form comes first.
		"0 2 0 0\n0 1 0 00\n", "0 2 0 0\n1", "5 1 0 0\n\n", "0 1 0 1099511627776\n1 256 0 0\n", "0 2 0 0",
	} {
		if l, err := tree.Parse(s); len(l) != 0 || err != api.ErrForm {
			t.Errorf("Parse(%.60q) = %v, %d, not ErrForm", s, l, err)
		}
	}
}

// P6.4: texts that have the form and tell no tree, with numbers as great as they may be; the text of no lines is one of them.
func TestTextsOfNoTree(t *testing.T) {
	for _, s := range []string{
		"", "0 2 0 0\n", "0 0 0 0\n", "0 255 0 0\n", "1 1 0 0\n", "0 1 1 1\n", "0 1 1 0\n", "0 1 0 1048577\n", "0 1 0 1099511627776\n", "0 1 1099511627776 1099511627776\n", "1099511627776 1 0 0\n", "1099511627776 255 1099511627776 1099511627776\n",
		"0 1 0 5\n0 1 0 5\n", "0 1 0 5\n2 10 0 2\n", "0 1 0 5\n1 10 0 6\n", "0 1 0 5\n1 10 3 2\n", "0 1 0 5\n1 10 0 2\n1 10 1 3\n", "0 1 0 5\n1 10 0 2\n3 10 0 2\n", "0 1 0 5\n1 10 0 1099511627776\n", "0 1 0 5\n1099511627776 10 0 2\n", "1 10 0 2\n0 1 0 5\n", "0 1 0 5\n1 255 0 2\n1 255 0 2\n",
	} {
		if l, err := tree.Parse(s); len(l) != 0 || err != api.ErrTree {
			t.Errorf("Parse(%q) = %v, %d, not ErrTree", s, l, err)
		}
	}
}

// P6.4, P6.6: texts of trees are read, and are what Print tells then: every kind, the longest text, numbers of each length.
func TestTextsOfTrees(t *testing.T) {
	for _, x := range []struct {
		s string
		l []api.Node
	}{
		{"0 1 0 0\n", list(0, 1, 0, 0)}, {"0 1 0 1\n", list(0, 1, 0, 1)}, {"0 1 0 10\n", list(0, 1, 0, 10)}, {"0 1 0 1048576\n", list(0, 1, 0, api.MaxText)}, {"0 1 0 1048576\n1 255 1048576 1048576\n", list(0, 1, 0, api.MaxText, 1, 255, api.MaxText, api.MaxText)},
		{"0 1 0 5\n1 0 0 5\n2 0 0 0\n", list(0, 1, 0, 5, 1, 0, 0, 5, 2, 0, 0, 0)}, {"0 1 0 5\n1 10 0 2\n2 11 0 2\n1 10 2 5\n", example()}, {"0 1 0 100\n1 100 10 100\n2 200 90 99\n", list(0, 1, 0, 100, 1, 100, 10, 100, 2, 200, 90, 99)},
	} {
		if l, err := tree.Parse(x.s); !slices.Equal(l, x.l) || err != api.OK {
			t.Errorf("Parse(%q) = %v, %d", x.s, l, err)
		}
		back(t, x.l)
	}
	for kind := range 256 {
		back(t, list(0, 1, 0, 9, 1, kind, 3, 4))
	}
}

// P6.4, P6.6: all short texts of the bytes that a tree's text has, and of one that it has not: just what is Print of a tree is taken.
func TestShortTexts(t *testing.T) {
	const bytes = "01 \n-"
	text := make([]byte, 0, 9)
	taken := 0
	var all func()
	all = func() {
		s := string(text)
		l, err := tree.Parse(s)
		if err == api.OK {
			taken++
			if again, err := tree.Print(l); again != s || err != api.OK {
				t.Fatalf("Print of Parse(%q) = %q, %d", s, again, err)
			}
		} else if len(l) != 0 || err != api.ErrForm && err != api.ErrTree {
			t.Fatalf("Parse(%q) = %v, %d", s, l, err)
		}
		for i := 0; i < len(bytes) && len(text) < cap(text); i++ {
			text = append(text, bytes[i])
			all()
			text = text[:len(text)-1]
		}
	}
	all()
	// Of at most nine bytes there are those of 0, 1, 10 and 11 bytes.
	if taken != 4 {
		t.Errorf("%d of them are taken, not 4", taken)
	}
}

// P6.4, P6.6: texts of trees in which one byte is another one, or is not there, or is there twice, are refused, or are the text of another tree.
func TestTextsThatAreSpoilt(t *testing.T) {
	seed := uint64(11)
	for range 300 {
		n := turn(&seed, 200)
		text := printed(grow(&seed, list(0, 1, 0, n), 1, 0, n, 2))
		for range 50 {
			at := turn(&seed, len(text))
			put := []string{"", "0", "1", "9", " ", "\n", "\r", "-", text[at:at+1] + text[at:at+1]}[turn(&seed, 9)]
			s := text[:at] + put + text[at+1:]
			l, err := tree.Parse(s)
			if err == api.OK && (printed(l) != s || !isTree(l, l[0].To)) || err != api.OK && len(l) != 0 {
				t.Fatalf("Parse(%q) = %v, %d", s, l, err)
			}
		}
	}
}

// P6.5: sums that are written out: of no numbers but zeros, and of each byte of a number.
func TestHash(t *testing.T) {
	for _, x := range []struct {
		l    []api.Node
		i    int
		nums []int
	}{
		{list(0, 1, 0, 0), 0, []int{1, 0, 0, 0}}, {list(0, 1, 0, 5), 0, []int{1, 0, 0, 5}}, {list(0, 1, 0, 0x0FEDCB), 0, []int{1, 0, 0, 0x0FEDCB}}, {list(0, 1, 0, api.MaxText), 0, []int{1, 0, 0, api.MaxText}},
		{example(), 0, []int{1, 0, 0, 5, 10, 1, 0, 2, 11, 2, 0, 2, 10, 1, 2, 5}}, {example(), 1, []int{10, 0, 0, 2, 11, 1, 0, 2}}, {example(), 2, []int{11, 0, 0, 2}}, {example(), 3, []int{10, 0, 0, 3}},
		{list(0, 1, 0, 9, 1, 10, 3, 8, 2, 255, 4, 6, 3, 0, 5, 5, 2, 12, 7, 8, 1, 10, 8, 9), 1, []int{10, 0, 0, 5, 255, 1, 1, 3, 0, 2, 2, 2, 12, 1, 4, 5}},
	} {
		want := uint64(14695981039346656037)
		for _, n := range x.nums {
			for k := range 8 {
				want = (want ^ uint64(n>>(8*k)&0xFF)) * 1099511628211
			}
		}
		if got, err := tree.Hash(x.l, x.i); got != want || err != api.OK || sum(x.l, x.i) != want {
			t.Errorf("Hash(%s, %d) = %d, %d, not %d", show(x.l), x.i, got, err, want)
		}
	}
}

// hash is a node's sum, of a list that is a tree.
func hash(t *testing.T, l []api.Node, i int) uint64 {
	t.Helper()
	h, err := tree.Hash(l, i)
	if err != api.OK {
		t.Fatalf("Hash(%s, %d): error %d", show(l), i, err)
	}
	return h
}

// P6.5, P6.7: nodes that are alike but for where they stand have one sum; one that differs in a single number, or in what lies within, has another.
func TestSumsOfWhatIsAlike(t *testing.T) {
	twice := list(0, 1, 0, 20, 1, 10, 0, 5, 2, 11, 1, 3, 3, 12, 2, 3, 2, 13, 4, 4, 1, 14, 6, 20, 2, 10, 9, 14, 3, 11, 10, 12, 4, 12, 11, 12, 3, 13, 13, 13)
	if !isTree(twice, 20) || hash(t, twice, 1) != hash(t, twice, 6) || hash(t, twice, 2) != hash(t, twice, 7) {
		t.Error("what is alike has two sums")
	}
	base := list(0, 1, 0, 20, 1, 10, 4, 12, 2, 11, 5, 8, 3, 12, 6, 7, 2, 13, 9, 10)
	want := hash(t, base, 1)
	for i, l := range [][]api.Node{
		list(0, 1, 0, 20, 1, 9, 4, 12, 2, 11, 5, 8, 3, 12, 6, 7, 2, 13, 9, 10), list(0, 1, 0, 20, 1, 10, 3, 12, 2, 11, 5, 8, 3, 12, 6, 7, 2, 13, 9, 10), list(0, 1, 0, 20, 1, 10, 4, 13, 2, 11, 5, 8, 3, 12, 6, 7, 2, 13, 9, 10), list(0, 1, 0, 20, 1, 10, 4, 12, 2, 12, 5, 8, 3, 12, 6, 7, 2, 13, 9, 10),
		list(0, 1, 0, 20, 1, 10, 4, 12, 2, 11, 4, 8, 3, 12, 6, 7, 2, 13, 9, 10), list(0, 1, 0, 20, 1, 10, 4, 12, 2, 11, 5, 9, 3, 12, 6, 7, 2, 13, 9, 10), list(0, 1, 0, 20, 1, 10, 4, 12, 2, 11, 5, 8, 2, 12, 8, 9, 2, 13, 9, 10), list(0, 1, 0, 20, 1, 10, 4, 12, 2, 11, 5, 8, 3, 12, 6, 6, 2, 13, 9, 10),
		list(0, 1, 0, 20, 1, 10, 4, 12, 2, 11, 5, 8, 3, 12, 6, 7, 2, 13, 9, 10, 2, 13, 10, 10), list(0, 1, 0, 20, 1, 10, 4, 12, 2, 11, 5, 8, 3, 12, 6, 7), list(0, 1, 0, 20, 1, 10, 4, 12, 2, 11, 5, 8, 3, 12, 6, 7, 1, 13, 12, 13), list(0, 1, 0, 20, 1, 10, 4, 12),
	} {
		if got := hash(t, l, 1); got == want {
			t.Errorf("list %d has the sum of another one", i)
		}
	}
	for i, l := range [][]api.Node{
		list(0, 1, 0, 99, 1, 10, 4, 12, 2, 11, 5, 8, 3, 12, 6, 7, 2, 13, 9, 10), list(0, 1, 0, 20, 1, 10, 4, 12, 2, 11, 5, 8, 3, 12, 6, 7, 2, 13, 9, 10, 1, 13, 12, 13), list(0, 1, 0, 20, 1, 10, 0, 8, 2, 11, 1, 4, 3, 12, 2, 3, 2, 13, 5, 6), list(0, 1, 0, api.MaxText, 1, 10, api.MaxText-8, api.MaxText, 2, 11, api.MaxText-7, api.MaxText-4, 3, 12, api.MaxText-6, api.MaxText-5, 2, 13, api.MaxText-3, api.MaxText-2),
	} {
		if got := hash(t, l, 1); got != want {
			t.Errorf("list %d has another sum, though its node is alike", i)
		}
	}
}

// P6.7: a tree that is put within another one, somewhere, keeps the sums of all its nodes but the root.
func TestSumsOfTreesThatMove(t *testing.T) {
	seed := uint64(23)
	for range 300 {
		n, by := turn(&seed, 30), turn(&seed, 1000)
		l := grow(&seed, list(0, 1, 0, n), 1, 0, n, 3)
		now := list(0, 1, 0, by+n+3, 1, 77, by, by+n)
		for _, x := range l[1:] {
			now = append(now, api.Node{Kind: x.Kind, Depth: x.Depth + 1, From: x.From + by, To: x.To + by})
		}
		for i := 1; i < len(l); i++ {
			if hash(t, l, i) != hash(t, now, i+1) {
				t.Fatalf("Hash(%s, %d) changes, as it moves", show(l), i)
			}
		}
	}
}

// P6.1 to P6.6: trees as deep as levels go, and very wide ones.
func TestGreatTrees(t *testing.T) {
	const levels, wide = 1 << 16, api.MaxText
	deep := make([]api.Node, levels+1)
	for i := range deep {
		deep[i] = api.Node{Kind: uint8(i), Depth: i, From: i, To: 2*levels - i}
	}
	deep[0] = api.Node{Kind: api.KindText, To: 2 * levels}
	flat := make([]api.Node, wide+1)
	for i := range flat {
		flat[i] = api.Node{Kind: 10, Depth: 1, From: i - 1, To: i}
	}
	flat[0] = api.Node{Kind: api.KindText, To: wide}
	back(t, deep)
	back(t, flat)
	path, err := tree.Path(deep, levels)
	if len(path) != levels+1 || path[0] != levels || path[levels] != 0 || err != api.OK {
		t.Errorf("a deep path of %d nodes, %d", len(path), err)
	}
	kids, err := tree.Kids(flat, 0)
	if len(kids) != wide || kids[0] != 1 || kids[wide-1] != wide || err != api.OK {
		t.Errorf("%d kids, %d", len(kids), err)
	}
	leaves, err := tree.Leaves(deep)
	if !slices.Equal(leaves, []int{levels}) || err != api.OK {
		t.Errorf("leaves of a deep tree: %v, %d", leaves, err)
	}
	leaves, err = tree.Leaves(flat)
	if !slices.Equal(leaves, kids) || err != api.OK {
		t.Errorf("%d leaves of a wide tree, %d", len(leaves), err)
	}
	for _, x := range []struct {
		l       []api.Node
		q, want int
	}{{deep, 0, 0}, {deep, 1, 1}, {deep, levels, levels}, {deep, levels + 1, levels - 1}, {deep, 2 * levels, 0}, {flat, 0, 1}, {flat, 1, 1}, {flat, 2, 2}, {flat, wide, wide}} {
		if at, err := tree.At(x.l, x.q); at != x.want || err != api.OK {
			t.Errorf("At(%s, %d) = %d, %d", show(x.l), x.q, at, err)
		}
	}
	if hash(t, flat, 1) != hash(t, flat, wide) || hash(t, deep, levels) == hash(t, deep, levels-1) {
		t.Error("sums of great trees")
	}
	deep[levels].Depth++
	flat[wide].From--
	noTree(t, deep)
	noTree(t, flat)
}

// handed is a list with room behind its end, which is not to be touched either.
func handed(l []api.Node) []api.Node {
	room := append(slices.Clone(l), list(7, 7, 7, 7, 8, 8, 8, 8)...)
	return room[:len(l):len(room)]
}

// spoil writes all over a list, and over the room behind its end.
func spoil[T any](l []T, x T) {
	l = l[:cap(l)]
	for i := range l {
		l[i] = x
	}
}

// P6.1 to P6.5: lists that are handed in stay as they were, with the room behind their ends; what is written to an answer, or to what was handed in, shows in no answer.
func TestNothingIsShared(t *testing.T) {
	for _, l := range [][]api.Node{example(), list(0, 1, 0, 0), list(0, 1, 0, 9, 1, 10, 2, 4, 2, 11, 3, 3), list(0, 1, 0, 9, 3, 10, 2, 4)} {
		in := handed(l)
		places := func(i int) [][]int {
			kids, _ := tree.Kids(in, i)
			path, _ := tree.Path(in, i)
			leaves, _ := tree.Leaves(in)
			return [][]int{kids, path, leaves}
		}
		for i := range l {
			want := places(i)
			for _, answer := range places(i) {
				spoil(answer, -9)
			}
			for k, answer := range places(i) {
				if !slices.Equal(answer, want[k]) {
					t.Fatalf("answer %d of %s at %d shows what was written to another one", k, show(l), i)
				}
			}
			tree.Up(in, i)
			tree.Hash(in, i)
			tree.At(in, i)
		}
		tree.Check(in, l[0].To)
		text, err := tree.Print(in)
		if room := handed(l); !slices.Equal(in[:cap(in)], room[:cap(room)]) {
			t.Fatalf("%s was changed to %s", show(l), show(in))
		}
		spoil(in, api.Node{Kind: 9})
		if err == api.OK && text != printed(l) {
			t.Fatalf("Print(%s) has become %q", show(l), text)
		}
	}
}

// P6.4: what is written to a tree that was read shows in no later one, and those that were read stand apart.
func TestReadTreesAreApart(t *testing.T) {
	const text = "0 1 0 5\n1 10 0 2\n2 11 0 2\n1 10 2 5\n"
	first, _ := tree.Parse(text)
	second, _ := tree.Parse(text)
	spoil(first, api.Node{Kind: 9, From: -9})
	third, _ := tree.Parse(text)
	if !slices.Equal(second, example()) || !slices.Equal(third, example()) {
		t.Errorf("%v, %v", second, third)
	}
}
