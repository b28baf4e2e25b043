package span_test

import (
	"fmt"
	"math"
	"slices"
	"strings"
	"testing"

	"indenture/api"
	"indenture/edit"
	"indenture/span"
)

// end is the place as which all those above it count, as ends of a range.
const end = 1 << 40

// far are numbers that are no ends of a range in form, and the last that are.
var far = []int{math.MinInt, math.MinInt + 1, -1 << 62, -end - 1, -end, -api.MaxText, -2, -1, end - 1, end, end + 1, end + 2, 1 << 62, 1<<62 + 1, math.MaxInt - 1, math.MaxInt}

// rs is a list of ranges, told as their ends.
func rs(ends ...int) []api.Range {
	var l []api.Range
	for i := 0; i+1 < len(ends); i += 2 {
		l = append(l, api.Range{From: ends[i], To: ends[i+1]})
	}
	return l
}

// turn goes on to the next number of a row that looks unordered, and answers one from 0 to n - 1.
func turn(seed *uint64, n int) int {
	*seed = *seed*6364136223846793005 + 1442695040888963407
	return int(*seed >> 33 % uint64(n))
}

// bound is the place as which an end of a range counts.
func bound(at int) int {
	switch {
	case at < 0:
		return 0
	case at > end:
		return end
	}
	return at
}

// has is what Has tells.
func has(l []api.Range, at int) bool {
	for _, r := range l {
		if bound(r.From) <= at && at < bound(r.To) {
			return true
		}
	}
	return false
}

// formed is the list in form of the places that are told to be in it, where this changes at the given places alone.
func formed(at []int, in func(int) bool) []api.Range {
	at = slices.Clone(at)
	slices.Sort(at)
	at = slices.Compact(at)
	var l []api.Range
	for i := 0; i+1 < len(at); i++ {
		if !in(at[i]) {
			continue
		}
		if n := len(l); n > 0 && l[n-1].To == at[i] {
			l[n-1].To = at[i+1]
			continue
		}
		l = append(l, api.Range{From: at[i], To: at[i+1]})
	}
	return l
}

// ends are the places at which it may change whether a place is one of some lists'.
func ends(lists ...[]api.Range) []int {
	at := []int{0, end}
	for _, l := range lists {
		for _, r := range l {
			at = append(at, bound(r.From), bound(r.To))
		}
	}
	return at
}

// same holds a list that was told against what is wanted, and both against what a list in form is.
func same(t *testing.T, call string, got, want []api.Range) {
	t.Helper()
	if !slices.Equal(got, want) {
		t.Fatalf("%s = %v, not %v", call, got, want)
	}
	behind := -1
	for _, r := range got {
		if r.From <= behind || r.From >= r.To || r.To > end {
			t.Fatalf("%s = %v is not in form", call, got)
		}
		behind = r.To
	}
}

// show tells an edit without all of a long Ins.
func show(e api.Edit) string {
	if len(e.Ins) > 20 {
		return fmt.Sprintf("{Pos %d, Del %d, Ins of %d bytes}", e.Pos, e.Del, len(e.Ins))
	}
	return fmt.Sprintf("{Pos %d, Del %d, Ins %q}", e.Pos, e.Del, e.Ins)
}

// one holds all that is told of a single list, but Move, against its places.
func one(t *testing.T, l []api.Range) {
	t.Helper()
	at := ends(l)
	want := formed(at, func(p int) bool { return has(l, p) })
	norm := span.Norm(l)
	same(t, fmt.Sprintf("Norm(%v)", l), norm, want)
	same(t, fmt.Sprintf("Norm(%v)", norm), span.Norm(norm), norm)
	n := 0
	for _, r := range want {
		n += r.To - r.From
	}
	if size := span.Size(l); size != n {
		t.Fatalf("Size(%v) = %d, not %d", l, size, n)
	}
	for _, p := range append(at, far...) {
		for _, p := range []int{max(p, math.MinInt+1) - 1, p, min(p, math.MaxInt-1) + 1} {
			if got := span.Has(l, p); got != has(l, p) || got != span.Has(norm, p) {
				t.Fatalf("Has(%v, %d) = %v", l, p, got)
			}
		}
	}
}

// two holds all that is told of two lists against their places.
func two(t *testing.T, a, b []api.Range) {
	t.Helper()
	at := ends(a, b)
	union, minus, both := span.Union(a, b), span.Minus(a, b), span.Both(a, b)
	same(t, fmt.Sprintf("Union(%v, %v)", a, b), union, formed(at, func(p int) bool { return has(a, p) || has(b, p) }))
	same(t, fmt.Sprintf("Minus(%v, %v)", a, b), minus, formed(at, func(p int) bool { return has(a, p) && !has(b, p) }))
	same(t, fmt.Sprintf("Both(%v, %v)", a, b), both, formed(at, func(p int) bool { return has(a, p) && has(b, p) }))
	same(t, "Both of Minus and Both", span.Both(minus, both), nil)
	same(t, "Union of Minus and Both", span.Union(minus, both), span.Norm(a))
	same(t, "Union of Union and b", span.Union(union, b), union)
	if n := span.Size(a) + span.Size(b); span.Size(union)+span.Size(both) != n || span.Size(minus)+span.Size(both) != span.Size(a) {
		t.Fatalf("sizes of %v and %v do not add up", a, b)
	}
}

// moved is what Move tells, by where each place comes from.
func moved(l []api.Range, e api.Edit) []api.Range {
	if e.Pos < 0 || e.Pos > api.MaxText || e.Del < 0 || e.Del > api.MaxText || len(e.Ins) > api.MaxText {
		return formed(ends(l), func(p int) bool { return has(l, p) })
	}
	put, by := e.Pos+len(e.Ins), len(e.Ins)-e.Del
	at := []int{bound(e.Pos), bound(put)}
	for _, p := range ends(l) {
		at = append(at, bound(p), bound(p+by))
	}
	return formed(at, func(p int) bool {
		switch {
		case p < e.Pos:
			return has(l, p)
		case p < put:
			return has(l, e.Pos-1) && has(l, e.Pos+e.Del)
		}
		return has(l, p-by)
	})
}

// move holds where a list goes against where its places go.
func move(t *testing.T, l []api.Range, e api.Edit) {
	t.Helper()
	same(t, fmt.Sprintf("Move(%v, %s)", l, show(e)), span.Move(l, e), moved(l, e))
}

// P5.1, P5.2, P5.3: the examples of the chapter.
func TestExamples(t *testing.T) {
	same(t, "Norm", span.Norm(rs(5, 7, 1, 3, 3, 4, 9, 9)), rs(1, 4, 5, 7))
	same(t, "Minus", span.Minus(rs(1, 9), rs(3, 4)), rs(1, 3, 4, 9))
	same(t, "Both", span.Both(rs(1, 5), rs(3, 9)), rs(3, 5))
	same(t, "Union", span.Union(rs(1, 2), rs(2, 3)), rs(1, 3))
	if span.Has(rs(1, 3), 3) || span.Size(rs(1, 3, 2, 5)) != 4 {
		t.Error("Has or Size")
	}
	same(t, "Move", span.Move(rs(0, 4), api.Edit{Pos: 1, Del: 1, Ins: "XY"}), rs(0, 5))
	same(t, "Move", span.Move(rs(0, 1), api.Edit{Pos: 1, Ins: "X"}), rs(0, 1))
}

// P5.1: no list, an empty one, ranges that are empty or turned about, places out of bounds, ranges that overlap, meet, lie within one another, are the same, are not sorted.
func TestNorm(t *testing.T) {
	for _, x := range []struct{ l, want []api.Range }{
		{nil, nil}, {[]api.Range{}, nil}, {rs(0, 0), nil}, {rs(0, 1), rs(0, 1)}, {rs(3, 3, 5, 5), nil}, {rs(5, 3), nil}, {rs(5, 3, 3, 5), rs(3, 5)}, {rs(9, 1, 4, 5), rs(4, 5)},
		{rs(1, 3, 2, 5), rs(1, 5)}, {rs(2, 5, 1, 3), rs(1, 5)}, {rs(1, 3, 3, 5), rs(1, 5)}, {rs(3, 5, 1, 3), rs(1, 5)}, {rs(1, 3, 4, 5), rs(1, 3, 4, 5)}, {rs(4, 5, 1, 3), rs(1, 3, 4, 5)},
		{rs(1, 9, 3, 5), rs(1, 9)}, {rs(3, 5, 1, 9), rs(1, 9)}, {rs(1, 9, 1, 5), rs(1, 9)}, {rs(1, 9, 5, 9), rs(1, 9)}, {rs(1, 3, 1, 3), rs(1, 3)}, {rs(1, 3, 1, 3, 1, 3, 7, 8), rs(1, 3, 7, 8)},
		{rs(1, 3, 3, 3, 3, 5), rs(1, 5)}, {rs(1, 3, 3, 3), rs(1, 3)}, {rs(5, 6, 3, 4, 1, 2), rs(1, 2, 3, 4, 5, 6)}, {rs(5, 6, 3, 4, 1, 2, 2, 3, 4, 5), rs(1, 6)}, {rs(1, 2, 4, 5, 2, 4), rs(1, 5)},
		{rs(-5, 3), rs(0, 3)}, {rs(-5, -1), nil}, {rs(-5, 0), nil}, {rs(0, -5), nil}, {rs(-1, 1, 1, 2), rs(0, 2)}, {rs(math.MinInt, 1), rs(0, 1)}, {rs(1, math.MinInt), nil}, {rs(math.MinInt, math.MaxInt), rs(0, end)}, {rs(math.MaxInt, math.MinInt), nil},
		{rs(end-1, end), rs(end-1, end)}, {rs(end-1, end+1), rs(end-1, end)}, {rs(end, end+1), nil}, {rs(end+1, end+5), nil}, {rs(end+5, end+1), nil}, {rs(end+5, end-1), nil}, {rs(end-2, end-1, end-1, math.MaxInt), rs(end-2, end)},
		{rs(7, math.MaxInt), rs(7, end)}, {rs(7, 8, math.MaxInt-1, math.MaxInt), rs(7, 8)}, {rs(math.MinInt, math.MinInt+1, 7, 8), rs(7, 8)},
	} {
		same(t, fmt.Sprintf("Norm(%v)", x.l), span.Norm(x.l), x.want)
		one(t, x.l)
	}
}

// P5.1: two lists that share nothing, that share all, one of which holds the other, that meet, that overlap, one of which is empty.
func TestTwoLists(t *testing.T) {
	for _, x := range []struct{ a, b, union, minus, both []api.Range }{
		{nil, nil, nil, nil, nil}, {nil, []api.Range{}, nil, nil, nil}, {rs(1, 3), nil, rs(1, 3), rs(1, 3), nil}, {nil, rs(1, 3), rs(1, 3), nil, nil}, {rs(1, 3), rs(2, 2), rs(1, 3), rs(1, 3), nil}, {rs(1, 5), rs(4, 2), rs(1, 5), rs(1, 5), nil},
		{rs(1, 3), rs(5, 7), rs(1, 3, 5, 7), rs(1, 3), nil}, {rs(5, 7), rs(1, 3), rs(1, 3, 5, 7), rs(5, 7), nil}, {rs(1, 3, 5, 7), rs(3, 5, 7, 9), rs(1, 9), rs(1, 3, 5, 7), nil},
		{rs(1, 3), rs(1, 3), rs(1, 3), nil, rs(1, 3)}, {rs(1, 3, 5, 7), rs(5, 7, 1, 2, 2, 3), rs(1, 3, 5, 7), nil, rs(1, 3, 5, 7)},
		{rs(1, 9), rs(3, 5), rs(1, 9), rs(1, 3, 5, 9), rs(3, 5)}, {rs(3, 5), rs(1, 9), rs(1, 9), nil, rs(3, 5)}, {rs(1, 9), rs(1, 5), rs(1, 9), rs(5, 9), rs(1, 5)}, {rs(1, 9), rs(5, 9), rs(1, 9), rs(1, 5), rs(5, 9)},
		{rs(1, 5), rs(3, 9), rs(1, 9), rs(1, 3), rs(3, 5)}, {rs(3, 9), rs(1, 5), rs(1, 9), rs(5, 9), rs(3, 5)}, {rs(1, 3), rs(3, 5), rs(1, 5), rs(1, 3), nil}, {rs(3, 5), rs(1, 3), rs(1, 5), rs(3, 5), nil},
		{rs(1, 9), rs(2, 3, 4, 5, 6, 7), rs(1, 9), rs(1, 2, 3, 4, 5, 6, 7, 9), rs(2, 3, 4, 5, 6, 7)}, {rs(1, 9), rs(2, 3, 3, 5), rs(1, 9), rs(1, 2, 5, 9), rs(2, 5)}, {rs(1, 5, 3, 9), rs(4, 6), rs(1, 9), rs(1, 4, 6, 9), rs(4, 6)},
		{rs(1, 5, 1, 5), rs(2, 3), rs(1, 5), rs(1, 2, 3, 5), rs(2, 3)}, {rs(1, 5), rs(2, 3, 2, 3), rs(1, 5), rs(1, 2, 3, 5), rs(2, 3)}, {rs(1, 4, 4, 8), rs(3, 5), rs(1, 8), rs(1, 3, 5, 8), rs(3, 5)},
		{rs(math.MinInt, math.MaxInt), rs(5, 6), rs(0, end), rs(0, 5, 6, end), rs(5, 6)}, {rs(-3, 2), rs(-9, 1), rs(0, 2), rs(1, 2), rs(0, 1)}, {rs(end-2, math.MaxInt), rs(end-1, end), rs(end-2, end), rs(end-2, end-1), rs(end-1, end)},
		{rs(-9, -1), rs(end, math.MaxInt), nil, nil, nil}, {rs(1, 3), rs(math.MinInt, -1, end, math.MaxInt), rs(1, 3), rs(1, 3), nil},
	} {
		call := fmt.Sprintf("(%v, %v)", x.a, x.b)
		same(t, "Union"+call, span.Union(x.a, x.b), x.union)
		same(t, "Minus"+call, span.Minus(x.a, x.b), x.minus)
		same(t, "Both"+call, span.Both(x.a, x.b), x.both)
		two(t, x.a, x.b)
		two(t, x.b, x.a)
	}
}

// short are all lists of at most two ranges whose ends are from -1 to n.
func short(n int) [][]api.Range {
	var single [][]api.Range
	for from := -1; from <= n; from++ {
		for to := -1; to <= n; to++ {
			single = append(single, rs(from, to))
		}
	}
	all := append([][]api.Range{nil, {}}, single...)
	for _, a := range single {
		for _, b := range single {
			all = append(all, slices.Concat(a, b))
		}
	}
	return all
}

// P5.1, P5.2, P5.4: so it is with all short lists, and with all pairs of shorter ones.
func TestShortLists(t *testing.T) {
	for _, l := range short(6) {
		one(t, l)
	}
	lists := short(3)
	for _, a := range lists {
		for _, b := range lists {
			two(t, a, b)
		}
	}
}

// P5.1, P5.2, P5.4: ranges both of whose ends may be far out.
func TestFarLists(t *testing.T) {
	at := append([]int{0, 1, 5}, far...)
	for _, from := range at {
		for _, to := range at {
			l := rs(from, to)
			one(t, l)
			for _, next := range at {
				one(t, rs(from, to, next, 5))
				two(t, l, rs(next, 3))
				two(t, l, rs(3, next))
				two(t, rs(next, end-3), l)
			}
		}
	}
}

// some is a list of at most n ranges that are not sorted, some of them empty or turned about.
func some(seed *uint64, n, most int) []api.Range {
	var l []api.Range
	for range turn(seed, n+1) {
		from := turn(seed, most) - 2
		l = append(l, api.Range{From: from, To: from + turn(seed, 2+most/4) - 2})
	}
	return l
}

// P5.1 to P5.4: lists of many ranges, and edits of them.
func TestManyRanges(t *testing.T) {
	seed := uint64(5)
	for range 2000 {
		n, most := 1+turn(&seed, 12), 4+turn(&seed, 60)
		a, b := some(&seed, n, most), some(&seed, n, most)
		one(t, a)
		two(t, a, b)
		for range 10 {
			move(t, a, api.Edit{Pos: turn(&seed, most), Del: turn(&seed, most), Ins: strings.Repeat("x", turn(&seed, 9))})
		}
	}
}

// P5.1, P5.3, P5.4: very long lists, sorted, turned about, and all of one place.
func TestLongLists(t *testing.T) {
	const n = 100000
	var rise, fall, one []api.Range
	for i := range n {
		rise = append(rise, api.Range{From: 3 * i, To: 3*i + 2})
		fall = append(fall, api.Range{From: 3 * (n - i), To: 3*(n-i) + 1})
		one = append(one, api.Range{From: i, To: 2*n - i})
	}
	same(t, "Norm of a long list", span.Norm(rise), rise)
	slices.Reverse(fall)
	want := slices.Clone(fall)
	slices.Reverse(fall)
	same(t, "Norm of a list that falls", span.Norm(fall), want)
	same(t, "Norm of ranges within one another", span.Norm(one), rs(0, 2*n))
	if size := span.Size(rise); size != 2*n {
		t.Errorf("Size = %d", size)
	}
	now := span.Move(rise, api.Edit{Pos: 1, Ins: "xyz"})
	if len(now) != n || now[0] != (api.Range{From: 0, To: 5}) || now[n-1] != (api.Range{From: 3 * n, To: 3*n + 2}) {
		t.Errorf("Move of a long list begins with %v and ends with %v", now[0], now[n-1])
	}
	same(t, "Both of long lists", span.Both(rise, want), want[:n-1])
}

// P5.2: places at either end of a range, within, outside, below 0, above 2^40, as far out as an int goes; places that two ranges have count once.
func TestHasAndSize(t *testing.T) {
	l := rs(5, 7, -3, 2, 6, 9, 12, 10, 11, 11, end-1, math.MaxInt)
	for at, want := range map[int]bool{
		math.MinInt: false, -4: false, -3: false, -1: false, 0: true, 1: true, 2: false, 4: false, 5: true, 6: true, 7: true, 8: true, 9: false, 10: false, 11: false, 12: false,
		end - 2: false, end - 1: true, end: false, end + 1: false, math.MaxInt - 1: false, math.MaxInt: false,
	} {
		if got := span.Has(l, at); got != want {
			t.Errorf("Has(%v, %d) = %v", l, at, got)
		}
	}
	for _, x := range []struct {
		l []api.Range
		n int
	}{
		{nil, 0}, {[]api.Range{}, 0}, {rs(3, 3), 0}, {rs(5, 3), 0}, {rs(3, 5), 2}, {rs(3, 5, 3, 5), 2}, {rs(3, 5, 5, 7), 4}, {rs(3, 5, 9, 7), 2}, {rs(-9, 5), 5}, {rs(-9, -1), 0}, {l, 2 + 4 + 1},
		{rs(math.MinInt, math.MaxInt), end}, {rs(math.MinInt, math.MaxInt, 0, end, 5, 6), end}, {rs(end-3, math.MaxInt), 3}, {rs(end, math.MaxInt), 0}, {rs(0, 1, end-1, end), 2},
	} {
		if n := span.Size(x.l); n != x.n {
			t.Errorf("Size(%v) = %d, not %d", x.l, n, x.n)
		}
	}
	for _, at := range far {
		if span.Has(nil, at) || span.Has([]api.Range{}, at) || span.Has(rs(at, at), at) {
			t.Errorf("no list has %d", at)
		}
	}
}

// P5.3: an edit ahead of, at, within and behind a range; one that takes just it, a part of it, more than it, nothing; one that puts nothing; with neither, one or both of the places beside what is taken in the list.
func TestMove(t *testing.T) {
	for _, x := range []struct {
		l    []api.Range
		e    api.Edit
		want []api.Range
	}{
		{nil, api.Edit{Pos: 1, Ins: "XY"}, nil}, {[]api.Range{}, api.Edit{Del: 3}, nil}, {rs(5, 3), api.Edit{Pos: 3, Ins: "XY"}, nil}, {rs(3, 5), api.Edit{}, rs(3, 5)}, {rs(5, 6, 3, 5), api.Edit{Pos: 4}, rs(3, 6)},
		{rs(3, 6), api.Edit{Ins: "XY"}, rs(5, 8)}, {rs(3, 6), api.Edit{Pos: 1, Del: 1}, rs(2, 5)}, {rs(3, 6), api.Edit{Pos: 1, Del: 2}, rs(1, 4)}, {rs(3, 6), api.Edit{Pos: 1, Del: 2, Ins: "X"}, rs(2, 5)}, {rs(3, 6), api.Edit{Del: 3, Ins: "XYZ"}, rs(3, 6)},
		{rs(3, 6), api.Edit{Pos: 3, Ins: "XY"}, rs(5, 8)}, {rs(3, 6), api.Edit{Pos: 4, Ins: "XY"}, rs(3, 8)}, {rs(3, 6), api.Edit{Pos: 5, Ins: "XY"}, rs(3, 8)}, {rs(3, 6), api.Edit{Pos: 6, Ins: "XY"}, rs(3, 6)}, {rs(3, 6), api.Edit{Pos: 7, Ins: "XY"}, rs(3, 6)},
		{rs(3, 6), api.Edit{Pos: 3, Del: 3, Ins: "XY"}, nil}, {rs(3, 6), api.Edit{Pos: 3, Del: 3}, nil}, {rs(3, 6), api.Edit{Pos: 2, Del: 5, Ins: "XY"}, nil}, {rs(3, 6), api.Edit{Del: 100}, nil}, {rs(3, 6, 9, 10), api.Edit{Pos: 3, Del: 3}, rs(6, 7)},
		{rs(3, 6), api.Edit{Pos: 3, Del: 1, Ins: "XY"}, rs(5, 7)}, {rs(3, 6), api.Edit{Pos: 4, Del: 1, Ins: "XY"}, rs(3, 7)}, {rs(3, 6), api.Edit{Pos: 5, Del: 1, Ins: "XY"}, rs(3, 5)}, {rs(3, 6), api.Edit{Pos: 4, Del: 1}, rs(3, 5)},
		{rs(3, 6), api.Edit{Pos: 1, Del: 3, Ins: "XY"}, rs(3, 5)}, {rs(3, 6), api.Edit{Pos: 1, Del: 4, Ins: ""}, rs(1, 2)}, {rs(3, 6), api.Edit{Pos: 5, Del: 9, Ins: "XY"}, rs(3, 5)}, {rs(3, 6), api.Edit{Pos: 6, Del: 9, Ins: "XY"}, rs(3, 6)},
		{rs(3, 6, 8, 9), api.Edit{Pos: 6, Del: 2, Ins: "XY"}, rs(3, 9)}, {rs(3, 6, 8, 9), api.Edit{Pos: 6, Del: 2}, rs(3, 7)}, {rs(3, 6, 8, 9), api.Edit{Pos: 5, Del: 3, Ins: "X"}, rs(3, 7)}, {rs(3, 6, 8, 9), api.Edit{Pos: 6, Del: 1, Ins: "X"}, rs(3, 6, 8, 9)}, {rs(3, 6, 8, 9), api.Edit{Pos: 7, Del: 1, Ins: "X"}, rs(3, 6, 8, 9)},
		{rs(3, 6, 8, 9), api.Edit{Pos: 4, Del: 5, Ins: "XY"}, rs(3, 4)}, {rs(3, 6, 6, 9), api.Edit{Pos: 6, Ins: "XY"}, rs(3, 11)}, {rs(3, 6, 7, 9), api.Edit{Pos: 6, Ins: "XY"}, rs(3, 6, 9, 11)}, {rs(3, 6, 7, 9), api.Edit{Pos: 7, Ins: "XY"}, rs(3, 6, 9, 11)},
		{rs(0, 3), api.Edit{Ins: "XY"}, rs(2, 5)}, {rs(0, 3), api.Edit{Del: 1, Ins: "XY"}, rs(2, 4)}, {rs(0, 3), api.Edit{Del: 1}, rs(0, 2)}, {rs(-5, 3), api.Edit{Ins: "XY"}, rs(2, 5)}, {rs(-5, 3), api.Edit{Pos: 1, Ins: "XY"}, rs(0, 5)}, {rs(0, 3), api.Edit{Del: 3, Ins: "X"}, nil},
		{rs(0, 1, 1, 2), api.Edit{Pos: 1, Del: 0, Ins: "X"}, rs(0, 3)}, {rs(0, 1, 2, 3), api.Edit{Pos: 1, Del: 1, Ins: ""}, rs(0, 2)}, {rs(0, 1, 2, 3), api.Edit{Pos: 1, Del: 1, Ins: "X"}, rs(0, 3)},
	} {
		same(t, fmt.Sprintf("Move(%v, %s)", x.l, show(x.e)), span.Move(x.l, x.e), x.want)
		move(t, x.l, x.e)
	}
}

// P5.3: so it is with all edits of short lists; a place that stays in a list goes where the layer below moves it.
func TestMoveOfShortLists(t *testing.T) {
	for _, l := range short(5) {
		for pos := range 8 {
			for del := range 8 {
				for _, ins := range []string{"", "X", "XYZ"} {
					e := api.Edit{Pos: pos, Del: del, Ins: ins}
					move(t, l, e)
					now := span.Move(l, e)
					for at := range 8 {
						kept := span.Has(l, at) && (at < pos || at >= pos+del)
						if kept && !span.Has(now, edit.Move(e, at)) {
							t.Fatalf("Move(%v, %s) = %v has not what %d becomes", l, show(e), now, at)
						}
					}
				}
			}
		}
	}
}

// P5.3: places about 2^40 that an edit moves; no list has a place past it.
func TestMoveOfFarPlaces(t *testing.T) {
	most := strings.Repeat("x", api.MaxText)
	for _, x := range []struct {
		l    []api.Range
		e    api.Edit
		want []api.Range
	}{
		{rs(end-3, end), api.Edit{Ins: "X"}, rs(end-2, end)}, {rs(end-3, end), api.Edit{Ins: "XYZ"}, nil}, {rs(end-3, end), api.Edit{Ins: "XYZW"}, nil}, {rs(end-3, end), api.Edit{Del: 2}, rs(end-5, end-2)}, {rs(end-3, math.MaxInt), api.Edit{Del: 1}, rs(end-4, end-1)},
		{rs(end-3, end-1), api.Edit{Ins: "X"}, rs(end-2, end)}, {rs(0, math.MaxInt), api.Edit{}, rs(0, end)}, {rs(0, math.MaxInt), api.Edit{Ins: "X"}, rs(1, end)}, {rs(0, math.MaxInt), api.Edit{Pos: 1, Ins: "X"}, rs(0, end)}, {rs(0, math.MaxInt), api.Edit{Del: 1}, rs(0, end-1)},
		{rs(math.MinInt, math.MaxInt), api.Edit{Pos: 5, Del: 3, Ins: "X"}, rs(0, end-2)}, {rs(end, math.MaxInt), api.Edit{Del: 5}, nil}, {rs(5, 6, end-3, end-2), api.Edit{Ins: "XY"}, rs(7, 8, end-1, end)}, {rs(5, 6, end-2, end-1), api.Edit{Ins: "XY"}, rs(7, 8)},
		{rs(0, end), api.Edit{Ins: most}, rs(api.MaxText, end)}, {rs(0, end), api.Edit{Del: api.MaxText}, rs(0, end-api.MaxText)}, {rs(0, end), api.Edit{Pos: api.MaxText, Del: api.MaxText, Ins: most}, rs(0, end)}, {rs(end-1, end), api.Edit{Pos: api.MaxText, Del: api.MaxText, Ins: most}, rs(end-1, end)},
	} {
		same(t, fmt.Sprintf("Move(%v, %s)", x.l, show(x.e)), span.Move(x.l, x.e), x.want)
	}
	at := append([]int{0, 5, api.MaxText, 2 * api.MaxText}, far...)
	for _, from := range at {
		for _, to := range at {
			for _, e := range []api.Edit{{}, {Ins: "x"}, {Del: 1}, {Pos: 5, Del: 3, Ins: "xy"}, {Ins: most}, {Del: api.MaxText}, {Pos: api.MaxText, Del: api.MaxText}, {Pos: api.MaxText, Del: api.MaxText, Ins: most}, {Pos: api.MaxText, Ins: "x"}} {
				move(t, rs(from, to), e)
				move(t, rs(3, 4, from, to, 7, 6), e)
			}
		}
	}
}

// P5.3: an edit one of whose numbers is out of its bounds moves nothing; one whose numbers are just at them does.
func TestMoveOfEditsOutOfBounds(t *testing.T) {
	most := strings.Repeat("x", api.MaxText)
	none := []api.Edit{{Ins: most + "x"}, {Pos: 4, Del: 1, Ins: most + "x"}, {Pos: -1, Ins: "x"}, {Pos: -1, Del: 5}, {Pos: 3, Del: -1}, {Pos: 4, Del: -1, Ins: "x"}}
	for _, n := range append([]int{api.MaxText + 1, 2 * api.MaxText}, far...) {
		none = append(none, api.Edit{Pos: n}, api.Edit{Pos: n, Ins: "xy"}, api.Edit{Pos: n, Del: 3}, api.Edit{Pos: n, Del: 1, Ins: "xy"}, api.Edit{Del: n}, api.Edit{Pos: 4, Del: n, Ins: "xy"}, api.Edit{Pos: n, Del: n, Ins: "x"}, api.Edit{Pos: -n, Del: n})
	}
	for _, e := range none {
		same(t, "Move("+show(e)+")", span.Move(rs(5, 7, 3, 5, 9, 9, -3, 1, end-1, math.MaxInt), e), rs(0, 1, 3, 7, end-1, end))
		same(t, "Move("+show(e)+")", span.Move(nil, e), nil)
		move(t, rs(0, math.MaxInt), e)
		move(t, rs(2, 3, 3, 4), e)
	}
	const last = api.MaxText
	same(t, "Move", span.Move(rs(last-1, last+1), api.Edit{Pos: last, Ins: "xy"}), rs(last-1, last+3))
	same(t, "Move", span.Move(rs(last-1, last), api.Edit{Pos: last, Ins: "xy"}), rs(last-1, last))
	same(t, "Move", span.Move(rs(last-1, last+1), api.Edit{Del: last, Ins: "xy"}), rs(2, 3))
	same(t, "Move", span.Move(rs(last-1, last, 2*last, 2*last+1), api.Edit{Pos: last, Del: last, Ins: most}), rs(last-1, 2*last+1))
	same(t, "Move", span.Move(rs(3, 5), api.Edit{Pos: 4, Ins: most}), rs(3, last+5))
}

// P5.4: an edit moves what two lists have in common, and what they have together, as it moves them; but for the places that it puts.
func TestMoveOfTwoLists(t *testing.T) {
	seed := uint64(7)
	for range 3000 {
		a, b := some(&seed, 6, 30), some(&seed, 6, 30)
		e := api.Edit{Pos: turn(&seed, 32), Del: turn(&seed, 12), Ins: strings.Repeat("x", turn(&seed, 5))}
		put := rs(e.Pos, e.Pos+len(e.Ins))
		apart := func(l []api.Range) []api.Range { return span.Minus(l, put) }
		same(t, "Move of Union", apart(span.Move(span.Union(a, b), e)), apart(span.Union(span.Move(a, e), span.Move(b, e))))
		same(t, "Move of Minus", apart(span.Move(span.Minus(a, b), e)), apart(span.Minus(span.Move(a, e), span.Move(b, e))))
		same(t, "Move of Both", span.Move(span.Both(a, b), e), span.Both(span.Move(a, e), span.Move(b, e)))
		taken := rs(e.Pos, e.Pos+e.Del)
		if n := span.Size(span.Minus(a, taken)); span.Size(apart(span.Move(a, e))) != n {
			t.Fatalf("Move(%v, %s) has other than %d places that stayed", a, show(e), n)
		}
	}
}

// handed is a list with room behind its end, which is not to be touched either.
func handed(l []api.Range) []api.Range {
	room := make([]api.Range, len(l), len(l)+3)
	copy(room, l)
	for i := len(l); i < cap(room); i++ {
		room[:cap(room)][i] = api.Range{From: -7, To: -7}
	}
	return room
}

// spoil writes all over a list, and over the room behind its end.
func spoil(l []api.Range) {
	l = l[:cap(l)]
	for i := range l {
		l[i] = api.Range{From: -9, To: -9}
	}
}

// P5.1, P5.3: lists that are handed in stay as they were, with the room behind their ends; what is written to an answer shows neither in them nor in a later answer.
func TestNothingIsShared(t *testing.T) {
	e := api.Edit{Pos: 4, Del: 1, Ins: "XY"}
	calls := []func(a, b []api.Range) []api.Range{
		func(a, _ []api.Range) []api.Range { return span.Norm(a) },
		span.Union, span.Minus, span.Both,
		func(a, _ []api.Range) []api.Range { return span.Move(a, e) },
		func(a, _ []api.Range) []api.Range { return span.Move(a, api.Edit{}) },
		func(a, _ []api.Range) []api.Range { return span.Move(a, api.Edit{Pos: -1}) },
		func(a, _ []api.Range) []api.Range { span.Has(a, 5); span.Size(a); return nil },
	}
	for _, a := range [][]api.Range{nil, rs(3, 9), rs(3, 5, 7, 9), rs(7, 9, 3, 5), rs(3, 5, 5, 9, 2, 1), rs(-3, 5, 9, math.MaxInt)} {
		for _, b := range [][]api.Range{nil, rs(3, 9), rs(4, 5), rs(8, 9, 4, 6), rs(1, 2, 4, 4)} {
			for i, call := range calls {
				inA, inB := handed(a), handed(b)
				first := call(inA, inB)
				want := slices.Clone(first)
				spoil(first)
				if !slices.Equal(inA[:cap(inA)], handed(a)[:cap(inA)]) || !slices.Equal(inB[:cap(inB)], handed(b)[:cap(inB)]) {
					t.Fatalf("call %d of %v and %v writes to them, or shares their memory", i, a, b)
				}
				next := call(inA, inB)
				spoil(inA)
				spoil(inB)
				same(t, fmt.Sprintf("call %d of %v and %v", i, a, b), next, want)
			}
		}
	}
}
