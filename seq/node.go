package seq

// thing is an item and its size.
type thing[T any] struct {
	item T
	size int
}

// counts is what is counted of a tree.
type counts struct {
	items, sum, depth int
}

// node is a tree of things: first the left tree's, then its own, then the right tree's; the depths of these trees differ by 1 at most. It does not change. A tree of nothing has no node.
type node[T any] struct {
	thing[T]
	counts
	left, right *node[T]
}

// counted is what is counted of n.
func (n *node[T]) counted() counts {
	if n == nil {
		return counts{}
	}
	return n.counts
}

// grow is a tree of as many items as sizes.
func grow[T any](items []T, sizes []int) *node[T] {
	if len(items) == 0 {
		return nil
	}
	half := len(items) / 2
	left := grow(items[:half], sizes[:half])
	right := grow(items[half+1:], sizes[half+1:])
	return tie(left, thing[T]{items[half], sizes[half]}, right)
}

// tie is a tree of left's things, mid, and right's; their depths differ by 1 at most.
func tie[T any](left *node[T], mid thing[T], right *node[T]) *node[T] {
	a, b := left.counted(), right.counted()
	return &node[T]{
		thing: mid,
		counts: counts{
			items: a.items + 1 + b.items,
			sum:   a.sum + mid.size + b.sum,
			depth: 1 + max(a.depth, b.depth),
		},
		left:  left,
		right: right,
	}
}

// join is a tree of a's things, mid, and b's, however deep they are; its depth is that of the deeper one, or 1 more.
func join[T any](a *node[T], mid thing[T], b *node[T]) *node[T] {
	left, right := a.counted().depth, b.counted().depth
	switch {
	case left > right+1:
		return level(a.left, a.thing, join(a.right, mid, b))
	case right > left+1:
		return level(join(a, mid, b.left), b.thing, b.right)
	}
	return tie(a, mid, b)
}

// level is a tree of a's things, mid, and b's; their depths differ by 2 at most.
func level[T any](a *node[T], mid thing[T], b *node[T]) *node[T] {
	left, right := a.counted().depth, b.counted().depth
	switch {
	case left > right+1 && a.right.counted().depth > a.left.counted().depth:
		in := a.right
		return tie(tie(a.left, a.thing, in.left), in.thing, tie(in.right, mid, b))
	case left > right+1:
		return tie(a.left, a.thing, tie(a.right, mid, b))
	case right > left+1 && b.left.counted().depth > b.right.counted().depth:
		in := b.left
		return tie(tie(a, mid, in.left), in.thing, tie(in.right, b.thing, b.right))
	case right > left+1:
		return tie(tie(a, mid, b.left), b.thing, b.right)
	}
	return tie(a, mid, b)
}

// link is a tree of a's things and b's.
func link[T any](a, b *node[T]) *node[T] {
	if b == nil {
		return a
	}
	first, rest := cut(b, 1)
	return join(a, first.thing, rest)
}

// cut is a tree of the first i things of n, and one of those behind them.
func cut[T any](n *node[T], i int) (*node[T], *node[T]) {
	if i <= 0 {
		return nil, n
	}
	if i >= n.counted().items {
		return n, nil
	}
	own := n.left.counted().items
	if i <= own {
		ahead, behind := cut(n.left, i)
		return ahead, join(behind, n.thing, n.right)
	}
	ahead, behind := cut(n.right, i-own-1)
	return join(n.left, n.thing, ahead), behind
}

// at is the thing i, which n has.
func (n *node[T]) at(i int) thing[T] {
	for {
		own := n.left.counted().items
		switch {
		case i < own:
			n = n.left
		case i == own:
			return n.thing
		default:
			i -= own + 1
			n = n.right
		}
	}
}

// sumAhead is the sum of the sizes of the first i things, which n has.
func (n *node[T]) sumAhead(i int) int {
	sum := 0
	for i > 0 {
		left := n.left.counted()
		if i <= left.items {
			n = n.left
			continue
		}
		i -= left.items + 1
		sum += left.sum + n.size
		n = n.right
	}
	return sum
}

// find is the number of the thing within which off lies, which is below the sum of n's sizes, and how far behind the thing's place off is.
func (n *node[T]) find(off int) (int, int) {
	ahead := 0
	for {
		left := n.left.counted()
		switch {
		case off < left.sum:
			n = n.left
		case off < left.sum+n.size:
			return ahead + left.items, off - left.sum
		default:
			ahead += left.items + 1
			off -= left.sum + n.size
			n = n.right
		}
	}
}

// tell hands yield n's items, in order, numbered from first on; it tells whether yield took them all.
func tell[T any](n *node[T], first int, yield func(int, T) bool) bool {
	if n == nil {
		return true
	}
	own := first + n.left.counted().items
	return tell(n.left, first, yield) && yield(own, n.item) && tell(n.right, own+1, yield)
}
