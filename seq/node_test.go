package seq

import (
	"math/bits"
	"testing"
)

// turn goes on to the next number of a row that looks unordered, and answers one from 0 to n - 1.
func turn(seed *uint64, n int) int {
	*seed = *seed*6364136223846793005 + 1442695040888963407
	return int(*seed >> 33 % uint64(n))
}

// sound tells of each node of a row whether it is what its remark says; it answers what is counted by going through.
func sound[T any](t *testing.T, n *node[T]) counts {
	if n == nil {
		return counts{}
	}
	a, b := sound(t, n.left), sound(t, n.right)
	if a.depth > b.depth+1 || b.depth > a.depth+1 {
		t.Fatalf("a node has trees of the depths %d and %d", a.depth, b.depth)
	}
	want := counts{items: a.items + 1 + b.items, sum: a.sum + n.size + b.sum, depth: 1 + max(a.depth, b.depth)}
	if n.counts != want {
		t.Fatalf("a node counts %v, not %v", n.counts, want)
	}
	return want
}

// whole holds what a row tells of its whole against its nodes, gone through one by one.
func whole[T any](t *testing.T, s *Seq[T]) {
	t.Helper()
	c := sound(t, s.root)
	if s.Len() != c.items || s.Size() != c.sum || s.Deep() != c.depth {
		t.Fatalf("Len = %d, Size = %d, Deep = %d of a tree of %v", s.Len(), s.Size(), s.Deep(), c)
	}
	if c.depth > 2*bits.Len(uint(c.items))+2 {
		t.Fatalf("a tree of %d items has the depth %d", c.items, c.depth)
	}
}

// P8.5: whatever is spliced, trees stay level, and Deep is how deep their nodes lie.
func TestTreesStaySound(t *testing.T) {
	seed := uint64(8)
	for _, most := range []int{1, 2, 7, 60, 900} {
		s := New[int]()
		for step := range 1500 {
			i := turn(&seed, s.Len()+1)
			n := 0
			if step%3 == 2 || s.Len() > 2000 {
				n = turn(&seed, s.Len()-i+1)
			}
			items := make([]int, turn(&seed, most+1))
			sizes := make([]int, len(items))
			for k := range sizes {
				sizes[k] = turn(&seed, 5)
			}
			if err := s.Splice(i, n, items, sizes); err != 0 {
				t.Fatalf("Splice = %v", err)
			}
			whole(t, s)
		}
	}
}

// P8.5: trees of few items that are cut anywhere and put together again, with one item or none between them, stay level.
func TestCutAndLink(t *testing.T) {
	for many := range 70 {
		items, sizes := make([]int, many), make([]int, many)
		for i := range items {
			items[i], sizes[i] = i, i%3
		}
		n := grow(items, sizes)
		if c := sound(t, n); c.items != many || c.depth != bits.Len(uint(many)) {
			t.Fatalf("a new tree of %d items counts %v", many, c)
		}
		for i := -1; i <= many+1; i++ {
			ahead, behind := cut(n, i)
			if k := min(max(i, 0), many); sound(t, ahead).items != k || sound(t, behind).items != many-k {
				t.Fatalf("%d items are cut at %d to %d and %d", many, i, ahead.counted().items, behind.counted().items)
			}
			if c := sound(t, link(ahead, behind)); c.items != many || c.sum != n.counted().sum {
				t.Fatalf("%d items, cut at %d and put together, count %v", many, i, c)
			}
			if c := sound(t, join(ahead, thing[int]{7, 7}, behind)); c.items != many+1 || c.sum != n.counted().sum+7 {
				t.Fatalf("%d items and one at %d count %v", many, i, c)
			}
			sound(t, n)
		}
	}
}

// P8.5: two trees of any depths are joined to one that is level, and as deep as the deeper one, or 1 deeper.
func TestJoin(t *testing.T) {
	trees := []*node[int]{nil}
	for k := 1; k <= 400; k += 1 + k/7 {
		lot := make([]int, k)
		trees = append(trees, grow(lot, lot))
		// One that came item by item from behind leans the other way.
		var one *node[int]
		for range k {
			one = join(nil, thing[int]{}, one)
		}
		trees = append(trees, one)
	}
	for _, a := range trees {
		for _, b := range trees {
			c := sound(t, join(a, thing[int]{1, 1}, b))
			if deeper := max(a.counted().depth, b.counted().depth); c.depth < deeper || c.depth > deeper+1 {
				t.Fatalf("trees of the depths %d and %d make one of %d", a.counted().depth, b.counted().depth, c.depth)
			}
			if c.items != a.counted().items+1+b.counted().items || c.sum != 1 {
				t.Fatalf("trees of %v and %v make one of %v", a.counted(), b.counted(), c)
			}
		}
	}
}
