package seq_test

import (
	"iter"
	"math"
	"math/bits"
	"slices"
	"testing"

	"indenture/api"
	"indenture/seq"
)

// The most that the sizes of a row come to, and the most items that it has.
const (
	full = 1 << 40
	many = 1 << 21
)

// far are numbers that are no item, no place and no size of any row.
var far = []int{math.MinInt, math.MinInt + 1, -1 << 62, -full - 1, -full, -many, -2, -1, full + 1, full + 2, 1 << 62, math.MaxInt - full, math.MaxInt - 2, math.MaxInt - 1, math.MaxInt}

// turn goes on to the next number of a row that looks unordered, and answers one from 0 to n - 1.
func turn(seed *uint64, n int) int {
	*seed = *seed*6364136223846793005 + 1442695040888963407
	return int(*seed >> 33 % uint64(n))
}

// model is what a row has to be, by the words alone: items and their sizes, as lists.
type model[T comparable] struct {
	items []T
	sizes []int
}

// sum is the sum of sizes.
func sum(sizes []int) int {
	n := 0
	for _, size := range sizes {
		n += size
	}
	return n
}

// refusal is the error of a splice; the sum of the sizes that are handed in is within an int.
func (m *model[T]) refusal(i, n int, items []T, sizes []int) api.Errno {
	have := len(m.items)
	if i < 0 || n < 0 || i > have || n > have-i {
		return api.ErrRange
	}
	if len(items) != len(sizes) {
		return api.ErrArg
	}
	for _, size := range sizes {
		if size < 0 || size > full {
			return api.ErrArg
		}
	}
	if have-n+len(items) > many || sum(m.sizes)-sum(m.sizes[i:i+n])+sum(sizes) > full {
		return api.ErrLong
	}
	return api.OK
}

// splice does to the lists what Splice does to a row.
func (m *model[T]) splice(i, n int, items []T, sizes []int) api.Errno {
	if err := m.refusal(i, n, items, sizes); err != api.OK {
		return err
	}
	m.items = slices.Concat(m.items[:i], items, m.items[i+n:])
	m.sizes = slices.Concat(m.sizes[:i], sizes, m.sizes[i+n:])
	return api.OK
}

// find is the item within which off lies, and how far behind its place off is; -1, if there is none.
func (m *model[T]) find(off int) (int, int) {
	for i, size := range m.sizes {
		if off >= 0 && off < size {
			return i, off
		}
		off -= size
	}
	return -1, 0
}

// row is a row of items with sizes, which may be, that came at one time, and its model.
func row[T comparable](t *testing.T, items []T, sizes []int) (*seq.Seq[T], *model[T]) {
	t.Helper()
	s := seq.New[T]()
	splice(t, s, 0, 0, items, sizes, api.OK)
	return s, &model[T]{slices.Clone(items), slices.Clone(sizes)}
}

// sized is a row of numbers, rising from 0 on, with sizes, and its model.
func sized(t *testing.T, sizes ...int) (*seq.Seq[int], *model[int]) {
	t.Helper()
	return row(t, rising(len(sizes)), sizes)
}

// rising are the first n numbers from 0 on.
func rising(n int) []int {
	l := make([]int, n)
	for i := range l {
		l[i] = i
	}
	return l
}

// splice holds what Splice answers against an error.
func splice[T any](t *testing.T, s *seq.Seq[T], i, n int, items []T, sizes []int, want api.Errno) {
	t.Helper()
	if err := s.Splice(i, n, items, sizes); err != want {
		t.Fatalf("Splice(%d, %d, %d items, %d sizes) of %d items = %d, not %d", i, n, len(items), len(sizes), s.Len(), err, want)
	}
}

// both splices a row and its model, and holds the one's answer against the other's.
func both[T comparable](t *testing.T, s *seq.Seq[T], m *model[T], i, n int, items []T, sizes []int) api.Errno {
	t.Helper()
	want := m.splice(i, n, items, sizes)
	splice(t, s, i, n, items, sizes, want)
	return want
}

// at holds At and Sum of a number, which may be none of an item, against a model.
func at[T comparable](t *testing.T, s *seq.Seq[T], m *model[T], i int) {
	t.Helper()
	var item T
	var size, place int
	atErr, sumErr := api.ErrRange, api.ErrRange
	if i >= 0 && i < len(m.items) {
		item, size, atErr = m.items[i], m.sizes[i], api.OK
	}
	if i >= 0 && i <= len(m.items) {
		place, sumErr = sum(m.sizes[:i]), api.OK
	}
	if x, n, err := s.At(i); x != item || n != size || err != atErr {
		t.Fatalf("At(%d) of %d = %v, %d, %d, not %v, %d, %d", i, len(m.items), x, n, err, item, size, atErr)
	}
	if n, err := s.Sum(i); n != place || err != sumErr {
		t.Fatalf("Sum(%d) of %d = %d, %d, not %d, %d", i, len(m.items), n, err, place, sumErr)
	}
}

// find holds Find of a number, which may be no place, against a model.
func find[T comparable](t *testing.T, s *seq.Seq[T], m *model[T], off int) {
	t.Helper()
	want, rest := m.find(off)
	wantErr := api.OK
	if want < 0 {
		want, wantErr = 0, api.ErrRange
	}
	if i, k, err := s.Find(off); i != want || k != rest || err != wantErr {
		t.Fatalf("Find(%d) of sizes %v = %d, %d, %d, not %d, %d, %d", off, m.sizes, i, k, err, want, rest, wantErr)
	}
}

// told holds what an iterator goes over against items.
func told[T comparable](t *testing.T, all iter.Seq2[int, T], items []T) {
	t.Helper()
	next := 0
	for i, x := range all {
		if i != next || i >= len(items) || x != items[i] {
			t.Fatalf("%d, %v is told, where %d of %d is next", i, x, next, len(items))
		}
		next++
	}
	if next != len(items) {
		t.Fatalf("%d items are told of %d", next, len(items))
	}
}

// counted holds what a row tells of its whole against a model.
func counted[T comparable](t *testing.T, s *seq.Seq[T], m *model[T]) {
	t.Helper()
	n := len(m.items)
	if s.Len() != n || s.Size() != sum(m.sizes) {
		t.Fatalf("Len = %d, Size = %d, not %d, %d", s.Len(), s.Size(), n, sum(m.sizes))
	}
	if d := s.Deep(); d < 0 || d > 2*bits.Len(uint(n))+2 || n == 0 && d != 0 || n > 0 && d == 0 {
		t.Fatalf("Deep = %d of %d items", d, n)
	}
}

// hold holds all that a short row tells of itself against a model.
func hold[T comparable](t *testing.T, s *seq.Seq[T], m *model[T]) {
	t.Helper()
	counted(t, s, m)
	told(t, s.All(), m.items)
	for i := -2; i <= len(m.items)+2; i++ {
		at(t, s, m, i)
	}
	place := 0
	for _, size := range m.sizes {
		for _, off := range []int{place - 1, place, place + 1, place + size/2, place + size - 1, place + size} {
			find(t, s, m, off)
		}
		place += size
	}
	for _, x := range append([]int{0, place - 1, place, place + 1}, far...) {
		at(t, s, m, x)
		find(t, s, m, x)
	}
}

// some holds what a long row tells of its whole and of some numbers and places against a model.
func some[T comparable](t *testing.T, s *seq.Seq[T], m *model[T], seed *uint64) {
	t.Helper()
	counted(t, s, m)
	told(t, s.All(), m.items)
	n, size := len(m.items), sum(m.sizes)
	for _, i := range []int{-1, 0, 1, n - 1, n, n + 1, turn(seed, n+1), turn(seed, n+1)} {
		at(t, s, m, i)
	}
	for _, off := range []int{-1, 0, 1, size - 1, size, size + 1, turn(seed, size+1), turn(seed, size+1)} {
		find(t, s, m, off)
	}
}

// P8.1 to P8.4: the examples of the chapter.
func TestExamples(t *testing.T) {
	s := seq.New[string]()
	m := &model[string]{}
	both(t, s, m, 0, 0, []string{"a", "b", "c"}, []int{2, 0, 3})
	if s.Len() != 3 || s.Size() != 5 {
		t.Errorf("Len = %d, Size = %d", s.Len(), s.Size())
	}
	if x, n, err := s.At(1); x != "b" || n != 0 || err != api.OK {
		t.Errorf("At(1) = %q, %d, %d", x, n, err)
	}
	for _, x := range []struct{ i, place int }{{2, 2}, {3, 5}} {
		if n, err := s.Sum(x.i); n != x.place || err != api.OK {
			t.Errorf("Sum(%d) = %d, %d", x.i, n, err)
		}
	}
	for _, x := range []struct {
		off, i, rest int
		err          api.Errno
	}{{1, 0, 1, api.OK}, {2, 2, 0, api.OK}, {5, 0, 0, api.ErrRange}} {
		if i, rest, err := s.Find(x.off); i != x.i || rest != x.rest || err != x.err {
			t.Errorf("Find(%d) = %d, %d, %d", x.off, i, rest, err)
		}
	}
	hold(t, s, m)
	both(t, s, m, 1, 2, []string{"d"}, []int{1})
	if s.Size() != 3 {
		t.Errorf("Size = %d", s.Size())
	}
	splice(t, s, 3, 0, nil, nil, api.ErrRange)
	splice(t, s, 0, 0, []string{"x"}, []int{}, api.ErrArg)
	hold(t, s, m)
}

// P8.1 to P8.5: a row that is nil, at each of its calls, whatever they are handed.
func TestNil(t *testing.T) {
	var s *seq.Seq[string]
	for _, i := range append([]int{0, 1, full}, far...) {
		splice(t, s, i, 0, nil, nil, api.ErrNil)
		splice(t, s, 0, i, nil, nil, api.ErrNil)
		splice(t, s, 0, 0, []string{"a"}, nil, api.ErrNil)
		splice(t, s, 0, 0, []string{"a"}, []int{i}, api.ErrNil)
		if x, n, err := s.At(i); x != "" || n != 0 || err != api.ErrNil {
			t.Errorf("At(%d) = %q, %d, %d", i, x, n, err)
		}
		if n, err := s.Sum(i); n != 0 || err != api.ErrNil {
			t.Errorf("Sum(%d) = %d, %d", i, n, err)
		}
		if k, rest, err := s.Find(i); k != 0 || rest != 0 || err != api.ErrNil {
			t.Errorf("Find(%d) = %d, %d, %d", i, k, rest, err)
		}
	}
	if s.Len() != 0 || s.Size() != 0 || s.Deep() != 0 {
		t.Errorf("Len = %d, Size = %d, Deep = %d", s.Len(), s.Size(), s.Deep())
	}
	if s.All() == nil {
		t.Fatal("All is nil")
	}
	told(t, s.All(), nil)
}

// P8.1 to P8.5: an empty row, new, spliced with nothing, and one that all items were taken from.
func TestEmpty(t *testing.T) {
	s, m := sized(t)
	hold(t, s, m)
	for _, x := range []struct {
		items []int
		sizes []int
	}{{nil, nil}, {[]int{}, nil}, {nil, []int{}}, {[]int{}, []int{}}} {
		both(t, s, m, 0, 0, x.items, x.sizes)
		hold(t, s, m)
	}
	for _, sizes := range [][]int{{0}, {1}, {0, 0, 0}, {3, 0, full - 3}} {
		s, m := sized(t, sizes...)
		both(t, s, m, 0, len(sizes), nil, nil)
		if s.Len() != 0 || s.Size() != 0 || s.Deep() != 0 {
			t.Errorf("behind all of %v: Len = %d, Size = %d, Deep = %d", sizes, s.Len(), s.Size(), s.Deep())
		}
		hold(t, s, m)
		both(t, s, m, 0, 0, []int{4}, []int{full})
		hold(t, s, m)
	}
}

// P8.1: i and n of every sort: at 0, at how many items there are, one more, below 0, and as far out as an int goes, also where their sum would leave an int.
func TestNumbers(t *testing.T) {
	for _, sizes := range [][]int{{}, {2}, {2, 0, 3}, {1, 1, 1, 1, 1, 1, 1}} {
		numbers := slices.Clone(far)
		for k := -2; k <= len(sizes)+2; k++ {
			numbers = append(numbers, k, math.MaxInt-k, math.MinInt+max(k, 0))
		}
		for _, i := range numbers {
			for _, n := range numbers {
				for _, put := range []int{0, 1, 3} {
					s, m := sized(t, sizes...)
					err := both(t, s, m, i, n, rising(put), rising(put))
					if may := i >= 0 && n >= 0 && i <= len(sizes) && n <= len(sizes) && i+n <= len(sizes); may != (err == api.OK) {
						t.Fatalf("Splice(%d, %d) of %d items = %d", i, n, len(sizes), err)
					}
					hold(t, s, m)
				}
			}
		}
	}
}

// P8.1: more items than sizes, and fewer; each that is nil or empty beside the other.
func TestItemsWithoutSizes(t *testing.T) {
	for items := range 5 {
		for sizes := range 5 {
			for _, n := range []int{0, 1, 3} {
				s, m := sized(t, 1, 2, 3)
				want := api.ErrArg
				if items == sizes {
					want = api.OK
				}
				if err := both(t, s, m, 0, n, rising(items), rising(sizes)); err != want {
					t.Errorf("%d items and %d sizes: %d", items, sizes, err)
				}
				hold(t, s, m)
			}
		}
	}
	s, m := sized(t, 4)
	both(t, s, m, 1, 0, nil, []int{1})
	both(t, s, m, 1, 0, []int{1}, nil)
	both(t, s, m, 1, 0, []int{}, []int{0})
	both(t, s, m, 1, 0, []int{0}, []int{})
	hold(t, s, m)
	// Items that have no bytes may be as many as an int tells.
	none := seq.New[struct{}]()
	splice(t, none, 0, 0, make([]struct{}, math.MaxInt), nil, api.ErrArg)
	splice(t, none, 0, 0, make([]struct{}, math.MaxInt), make([]int, 3), api.ErrArg)
	splice(t, none, 0, 0, make([]struct{}, 3), make([]int, 3), api.OK)
	splice(t, none, 3, 0, make([]struct{}, math.MaxInt), []int{-1}, api.ErrArg)
	hold(t, none, &model[struct{}]{make([]struct{}, 3), make([]int, 3)})
}

// P8.1: a size of 0, of 2^40, of one more, below 0 and as far out as an int goes, alone and wherever it stands among others.
func TestSizes(t *testing.T) {
	for _, x := range []struct {
		size int
		want api.Errno
	}{{0, api.OK}, {1, api.OK}, {full - 1, api.OK}, {full, api.OK}, {full + 1, api.ErrArg}, {full + 2, api.ErrArg}, {2 * full, api.ErrArg}, {-1, api.ErrArg}, {-2, api.ErrArg}, {-full, api.ErrArg}, {math.MaxInt, api.ErrArg}, {math.MaxInt - 1, api.ErrArg}, {math.MinInt, api.ErrArg}, {math.MinInt + 1, api.ErrArg}, {1 << 62, api.ErrArg}, {-1 << 62, api.ErrArg}} {
		s, m := sized(t)
		if err := both(t, s, m, 0, 0, []int{7}, []int{x.size}); err != x.want {
			t.Errorf("a size of %d: %d", x.size, err)
		}
		hold(t, s, m)
		for at := range 5 {
			sizes := make([]int, 5)
			sizes[at] = x.size
			s, m := sized(t, 0, 0)
			if err := both(t, s, m, 1, 1, rising(5), sizes); err != x.want {
				t.Errorf("sizes %v: %d", sizes, err)
			}
			hold(t, s, m)
		}
	}
	// Sizes that may not be are not made up for by others.
	s, m := sized(t, 5)
	for _, sizes := range [][]int{{-1, 1}, {2, -1}, {full + 1, -1}, {-1, full + 1}, {math.MinInt, math.MaxInt}, {math.MaxInt, math.MaxInt}, {math.MinInt, math.MinInt}} {
		splice(t, s, 0, 1, rising(2), sizes, api.ErrArg)
		hold(t, s, m)
	}
}

// P8.1: sizes that come to 2^40 in all, and to one more, with some that go at the same time.
func TestSizesInAll(t *testing.T) {
	for _, x := range []struct {
		have []int
		i, n int
		put  []int
		want api.Errno
	}{
		{nil, 0, 0, []int{full}, api.OK}, {nil, 0, 0, []int{full, 0}, api.OK}, {nil, 0, 0, []int{full, 1}, api.ErrLong}, {nil, 0, 0, []int{1, full}, api.ErrLong}, {nil, 0, 0, []int{full, full}, api.ErrLong},
		{nil, 0, 0, []int{full / 2, full / 2}, api.OK}, {nil, 0, 0, []int{full / 2, full/2 + 1}, api.ErrLong}, {nil, 0, 0, []int{full / 2, full / 2, 0, 0}, api.OK}, {nil, 0, 0, []int{full / 2, 0, full / 2, 1}, api.ErrLong},
		{[]int{full}, 1, 0, []int{0}, api.OK}, {[]int{full}, 1, 0, []int{1}, api.ErrLong}, {[]int{full}, 0, 0, []int{1}, api.ErrLong}, {[]int{full}, 0, 1, []int{full}, api.OK}, {[]int{full}, 0, 1, []int{full, 1}, api.ErrLong}, {[]int{full}, 1, 0, []int{full}, api.ErrLong}, {[]int{full}, 1, 0, nil, api.OK},
		{[]int{3, 4, full - 7}, 1, 1, []int{4}, api.OK}, {[]int{3, 4, full - 7}, 1, 1, []int{5}, api.ErrLong}, {[]int{3, 4, full - 7}, 0, 1, []int{4}, api.ErrLong}, {[]int{3, 4, full - 7}, 0, 2, []int{3, 4}, api.OK}, {[]int{3, 4, full - 7}, 0, 2, []int{8}, api.ErrLong},
		{[]int{3, 4, full - 7}, 2, 1, []int{full - 7}, api.OK}, {[]int{3, 4, full - 7}, 2, 1, []int{full - 6}, api.ErrLong}, {[]int{3, 4, full - 7}, 0, 3, []int{full}, api.OK}, {[]int{3, 4, full - 7}, 0, 3, []int{full, 1}, api.ErrLong},
		{[]int{3, 4, full - 8}, 1, 0, []int{1}, api.OK}, {[]int{3, 4, full - 8}, 1, 0, []int{2}, api.ErrLong}, {[]int{3, 4, full - 8}, 3, 0, []int{1, 0, 0}, api.OK}, {[]int{3, 4, full - 8}, 0, 0, []int{0, 1, 1}, api.ErrLong},
	} {
		s, m := sized(t, x.have...)
		if err := both(t, s, m, x.i, x.n, rising(len(x.put)), x.put); err != x.want {
			t.Errorf("Splice(%d, %d) of sizes %v with %v: %d", x.i, x.n, x.have, x.put, err)
		}
		hold(t, s, m)
	}
	// So many sizes of 2^40 that their sum is far above it, and one that leaves an int.
	for _, n := range []int{1 << 20, many, many + 1, 1<<23 + 1} {
		sizes := slices.Repeat([]int{full}, n)
		s, m := sized(t, 1, 2)
		splice(t, s, 0, 2, rising(n), sizes, api.ErrLong)
		hold(t, s, m)
	}
}

// P8.1: 2^21 items, and one more, at one time, by pieces, and with some that go at the same time.
func TestMostItems(t *testing.T) {
	seed := uint64(3)
	lot, sizes := rising(many+1), slices.Repeat([]int{2}, many+1)
	s, m := row(t, lot[:many], sizes[:many])
	some(t, s, m, &seed)
	splice(t, s, many, 0, []int{0}, []int{0}, api.ErrLong)
	splice(t, s, 0, 0, []int{0}, []int{0}, api.ErrLong)
	splice(t, s, many/2, 3, lot[:4], sizes[:4], api.ErrLong)
	splice(t, s, 0, many, lot, sizes, api.ErrLong)
	some(t, s, m, &seed)
	both(t, s, m, many/2, 3, []int{-1, -2, -3}, []int{0, 5, 0})
	both(t, s, m, many, 0, nil, nil)
	both(t, s, m, 7, 1, nil, nil)
	some(t, s, m, &seed)
	both(t, s, m, 9, 0, []int{-4}, []int{1})
	splice(t, s, 9, 0, []int{-5}, []int{1}, api.ErrLong)
	both(t, s, m, 0, many, lot[:many], sizes[:many])
	some(t, s, m, &seed)
	fresh, empty := sized(t)
	splice(t, fresh, 0, 0, lot, sizes, api.ErrLong)
	hold(t, fresh, empty)
	// Items without sizes of their own count too.
	zeros := make([]int, many+1)
	splice(t, fresh, 0, 0, zeros, zeros, api.ErrLong)
	splice(t, fresh, 0, 0, zeros[:many], zeros[:many], api.OK)
	splice(t, fresh, 0, 0, zeros[:1], zeros[:1], api.ErrLong)
	if fresh.Len() != many || fresh.Size() != 0 {
		t.Errorf("Len = %d, Size = %d", fresh.Len(), fresh.Size())
	}
}

// P8.1: of several errors the one that is named first; the row stays as it was.
func TestErrorsInOrder(t *testing.T) {
	var none *seq.Seq[int]
	s, m := sized(t, 3, full-3)
	lot := make([]int, many+1)
	bad := slices.Clone(lot)
	bad[many] = -1
	for _, x := range []struct {
		i, n         int
		items, sizes []int
		want         api.Errno
	}{
		// Out of bounds, items without sizes, sizes that may not be, too much.
		{-1, 0, lot, nil, api.ErrRange}, {0, -1, []int{1}, []int{-1}, api.ErrRange}, {3, 0, []int{1, 2}, []int{full, full}, api.ErrRange}, {0, 3, lot, lot, api.ErrRange}, {1, 2, nil, []int{-1}, api.ErrRange}, {math.MaxInt, math.MaxInt, nil, []int{full + 1}, api.ErrRange}, {math.MinInt, math.MinInt, lot, bad, api.ErrRange},
		{0, 0, lot, nil, api.ErrArg}, {0, 0, nil, lot, api.ErrArg}, {0, 2, lot, lot[:many], api.ErrArg}, {0, 0, lot, bad, api.ErrArg}, {0, 0, []int{1, 2}, []int{1}, api.ErrArg}, {0, 0, []int{1}, []int{full, full}, api.ErrArg},
		{0, 0, []int{1, 2}, []int{full, -1}, api.ErrArg}, {0, 0, []int{1, 2}, []int{-1, full}, api.ErrArg}, {0, 0, []int{1, 2, 3}, []int{full, full, full + 1}, api.ErrArg}, {0, 0, []int{1}, []int{full + 1}, api.ErrArg},
		{0, 0, lot, lot, api.ErrLong}, {0, 2, lot, lot, api.ErrLong}, {0, 0, []int{1}, []int{1}, api.ErrLong}, {2, 0, []int{1}, []int{full}, api.ErrLong},
	} {
		splice(t, s, x.i, x.n, x.items, x.sizes, x.want)
		hold(t, s, m)
		splice(t, none, x.i, x.n, x.items, x.sizes, api.ErrNil)
	}
}

// P8.2: At and Sum at 0, at the last item, at how many there are, one more, and below 0, written out.
func TestAtAndSum(t *testing.T) {
	s, _ := row(t, []string{"a", "b", "c"}, []int{2, 0, 3})
	for _, x := range []struct {
		i     int
		item  string
		size  int
		at    api.Errno
		place int
		sum   api.Errno
	}{
		{0, "a", 2, api.OK, 0, api.OK}, {1, "b", 0, api.OK, 2, api.OK}, {2, "c", 3, api.OK, 2, api.OK}, {3, "", 0, api.ErrRange, 5, api.OK},
		{4, "", 0, api.ErrRange, 0, api.ErrRange}, {-1, "", 0, api.ErrRange, 0, api.ErrRange}, {math.MaxInt, "", 0, api.ErrRange, 0, api.ErrRange}, {math.MinInt, "", 0, api.ErrRange, 0, api.ErrRange},
	} {
		if item, size, err := s.At(x.i); item != x.item || size != x.size || err != x.at {
			t.Errorf("At(%d) = %q, %d, %d", x.i, item, size, err)
		}
		if place, err := s.Sum(x.i); place != x.place || err != x.sum {
			t.Errorf("Sum(%d) = %d, %d", x.i, place, err)
		}
	}
	empty := seq.New[string]()
	if item, size, err := empty.At(0); item != "" || size != 0 || err != api.ErrRange {
		t.Errorf("At(0) of nothing = %q, %d, %d", item, size, err)
	}
	if place, err := empty.Sum(0); place != 0 || err != api.OK {
		t.Errorf("Sum(0) of nothing = %d, %d", place, err)
	}
	if place, err := empty.Sum(1); place != 0 || err != api.ErrRange {
		t.Errorf("Sum(1) of nothing = %d, %d", place, err)
	}
}

// P8.3: Find at 0, at the last place, at the sum of all sizes, below 0, and at the places of items of size 0 and right behind them, written out.
func TestFind(t *testing.T) {
	for _, x := range []struct {
		sizes        []int
		off, i, rest int
		err          api.Errno
	}{
		{nil, 0, 0, 0, api.ErrRange}, {nil, -1, 0, 0, api.ErrRange}, {nil, 1, 0, 0, api.ErrRange},
		{[]int{0}, 0, 0, 0, api.ErrRange}, {[]int{0, 0, 0}, 0, 0, 0, api.ErrRange}, {[]int{0, 0, 0}, -1, 0, 0, api.ErrRange}, {[]int{0, 0, 0}, 1, 0, 0, api.ErrRange},
		{[]int{2}, 0, 0, 0, api.OK}, {[]int{2}, 1, 0, 1, api.OK}, {[]int{2}, 2, 0, 0, api.ErrRange}, {[]int{2}, -1, 0, 0, api.ErrRange},
		{[]int{0, 0, 1}, 0, 2, 0, api.OK}, {[]int{1, 0, 0}, 0, 0, 0, api.OK}, {[]int{1, 0, 0}, 1, 0, 0, api.ErrRange}, {[]int{0, 1, 0}, 0, 1, 0, api.OK}, {[]int{0, 1, 0}, 1, 0, 0, api.ErrRange},
		{[]int{2, 0, 0, 3, 0, 1}, 1, 0, 1, api.OK}, {[]int{2, 0, 0, 3, 0, 1}, 2, 3, 0, api.OK}, {[]int{2, 0, 0, 3, 0, 1}, 3, 3, 1, api.OK}, {[]int{2, 0, 0, 3, 0, 1}, 4, 3, 2, api.OK}, {[]int{2, 0, 0, 3, 0, 1}, 5, 5, 0, api.OK}, {[]int{2, 0, 0, 3, 0, 1}, 6, 0, 0, api.ErrRange},
		{[]int{full}, 0, 0, 0, api.OK}, {[]int{full}, full - 1, 0, full - 1, api.OK}, {[]int{full}, full, 0, 0, api.ErrRange}, {[]int{1, full - 2, 0, 1}, full - 2, 1, full - 3, api.OK}, {[]int{1, full - 2, 0, 1}, full - 1, 3, 0, api.OK}, {[]int{1, full - 2, 0, 1}, full, 0, 0, api.ErrRange},
		{[]int{1, 1}, math.MaxInt, 0, 0, api.ErrRange}, {[]int{1, 1}, math.MinInt, 0, 0, api.ErrRange},
	} {
		s, m := sized(t, x.sizes...)
		if i, rest, err := s.Find(x.off); i != x.i || rest != x.rest || err != x.err {
			t.Errorf("Find(%d) of %v = %d, %d, %d", x.off, x.sizes, i, rest, err)
		}
		hold(t, s, m)
	}
}

// P8.3: rows of all sizes from 0 to 2, up to six of them.
func TestShortRows(t *testing.T) {
	for n := range 7 {
		sizes := make([]int, n)
		for {
			s, m := sized(t, sizes...)
			hold(t, s, m)
			k := 0
			for k < n && sizes[k] == 2 {
				sizes[k] = 0
				k++
			}
			if k == n {
				break
			}
			sizes[k]++
		}
	}
}

// P8.4: All of rows of many lengths, gone over twice, two at a time, and left early at each item.
func TestAll(t *testing.T) {
	for _, n := range []int{0, 1, 2, 3, 4, 7, 8, 100, 1000} {
		items := make([]string, n)
		for i := range items {
			items[i] = string(rune('a' + i%26))
		}
		s, _ := row(t, items, make([]int, n))
		all := s.All()
		told(t, all, items)
		told(t, all, items)
		told(t, s.All(), items)
		for stop := 0; stop < n; stop += 1 + n/50 {
			last, steps := -1, 0
			for i, x := range all {
				last = i
				steps++
				if x != items[i] {
					t.Fatalf("item %d is %q", i, x)
				}
				if i == stop {
					break
				}
			}
			if last != stop || steps != stop+1 {
				t.Fatalf("left at %d of %d: came to %d in %d steps", stop, n, last, steps)
			}
			told(t, all, items)
		}
		if n > 100 {
			continue
		}
		pairs := 0
		for i := range all {
			for k := range all {
				pairs++
				if i == k {
					break
				}
			}
		}
		if pairs != n*(n+1)/2 {
			t.Errorf("%d pairs of %d items", pairs, n)
		}
	}
}

// P8.4: All of the most items that there may be, and left early there.
func TestAllOfMany(t *testing.T) {
	lot := rising(many)
	s, _ := row(t, lot, make([]int, many))
	told(t, s.All(), lot)
	for i, x := range s.All() {
		if i != x || i > many/2 {
			t.Fatalf("item %d is %d", i, x)
		}
		if i == many/2 {
			break
		}
	}
}

// P8.4: a row that is changed while it is gone over, from before the first item on, is gone over as it was when All was called.
func TestAllWhileTheRowChanges(t *testing.T) {
	changes := []func(s *seq.Seq[int], k int){
		func(s *seq.Seq[int], k int) { s.Splice(0, 0, []int{-k}, []int{k}) },
		func(s *seq.Seq[int], k int) { s.Splice(s.Len(), 0, []int{-k}, []int{k}) },
		func(s *seq.Seq[int], k int) { s.Splice(s.Len()/2, 0, []int{-k, k}, []int{k, 0}) },
		func(s *seq.Seq[int], k int) { s.Splice(0, min(1, s.Len()), nil, nil) },
		func(s *seq.Seq[int], k int) { s.Splice(max(s.Len()-1, 0), min(1, s.Len()), nil, nil) },
		func(s *seq.Seq[int], k int) { s.Splice(0, s.Len(), nil, nil) },
		func(s *seq.Seq[int], k int) { s.Splice(0, s.Len(), []int{-1, -2, -3}, []int{1, 2, 3}) },
		func(s *seq.Seq[int], k int) { s.Splice(min(k, s.Len()), s.Len()-min(k, s.Len()), []int{9}, []int{9}) },
	}
	for _, n := range []int{0, 1, 2, 5, 40} {
		for _, change := range changes {
			s, m := sized(t, slices.Repeat([]int{1}, n)...)
			all := s.All()
			change(s, 1)
			told(t, all, m.items)
			// Once more, while it is gone over.
			next := 0
			for i, x := range all {
				if i != next || x != m.items[i] {
					t.Fatalf("%d, %d is told, where %d is next", i, x, next)
				}
				next++
				change(s, i)
			}
			if next != n {
				t.Fatalf("%d items are told of %d", next, n)
			}
			told(t, all, m.items)
		}
	}
	// What is called behind the change goes over the row as it is now.
	s, m := sized(t, 1, 2, 3)
	old, items := s.All(), slices.Clone(m.items)
	both(t, s, m, 1, 1, []int{7, 8}, []int{1, 1})
	told(t, s.All(), m.items)
	told(t, old, items)
}

// P8.5: Deep of 0 items, of 1, and of many that came at one time and one by one, at the front, at the end and in the middle.
func TestDeep(t *testing.T) {
	if d := seq.New[int]().Deep(); d != 0 {
		t.Errorf("Deep = %d of no items", d)
	}
	if s, m := sized(t, 5); s.Deep() < 1 || s.Deep() > 4 {
		t.Errorf("Deep = %d of %v", s.Deep(), m.items)
	}
	for n := 1; n <= many; n *= 2 {
		for _, k := range []int{n - 1, n, min(n+1, many)} {
			s, m := row(t, rising(k), make([]int, k))
			counted(t, s, m)
		}
	}
	for _, where := range []func(n int) int{
		func(int) int { return 0 },
		func(n int) int { return n },
		func(n int) int { return n / 2 },
		func(n int) int { return n / 2 * (n % 2) },
		func(n int) int { return n - n%3*n/3 },
	} {
		s := seq.New[int]()
		for n := range 20000 {
			splice(t, s, where(n), 0, []int{n}, []int{1}, api.OK)
			if d := s.Deep(); d < 1 || d > 2*bits.Len(uint(n+1))+2 {
				t.Fatalf("Deep = %d of %d items", d, n+1)
			}
		}
		for n := 20000; n > 0; n-- {
			if d := s.Deep(); d < 1 || d > 2*bits.Len(uint(n))+2 {
				t.Fatalf("Deep = %d of %d items", d, n)
			}
			splice(t, s, min(where(n), n-1), 1, nil, nil, api.OK)
		}
		if s.Len() != 0 || s.Size() != 0 || s.Deep() != 0 {
			t.Errorf("Len = %d, Size = %d, Deep = %d", s.Len(), s.Size(), s.Deep())
		}
	}
}

// P8.5: a row is changed and looked up as cheaply as it is deep, however long it is.
func TestCalls(t *testing.T) {
	const n = 1 << 20
	s, _ := row(t, rising(n), slices.Repeat([]int{1}, n))
	items, sizes := []int{1}, []int{1}
	looks := testing.AllocsPerRun(100, func() {
		s.At(n / 3)
		s.Sum(n / 3)
		s.Find(n / 3)
	})
	if looks != 0 {
		t.Errorf("looking makes %v things", looks)
	}
	made := testing.AllocsPerRun(100, func() {
		s.Splice(n/3, 1, items, sizes)
	})
	if deep := s.Deep(); made > float64(12*deep) {
		t.Errorf("a splice of a row of the depth %d makes %v things", deep, made)
	}
}

// P8.6: whatever is spliced, refused or taken, the row is the list that the same does of a list.
func TestManySplices(t *testing.T) {
	seed := uint64(11)
	for round := range 60 {
		s, m := sized(t)
		most := []int{1, 3, 20}[round%3]
		for range 60 {
			i, n := turn(&seed, len(m.items)+2)-1, 0
			if turn(&seed, 2) == 0 {
				n = turn(&seed, max(len(m.items)-i, 0)+2) - turn(&seed, 2)
			}
			items := rising(turn(&seed, most+1))
			sizes := make([]int, len(items))
			for k := range sizes {
				items[k] = turn(&seed, 1000)
				sizes[k] = []int{0, 0, 1, 2, 7, turn(&seed, 300), full / 64}[turn(&seed, 7)]
			}
			if turn(&seed, 20) == 0 {
				sizes = append(sizes, 0)
			}
			if turn(&seed, 20) == 0 && len(sizes) > 0 {
				sizes[turn(&seed, len(sizes))] = far[turn(&seed, len(far))]
			}
			both(t, s, m, i, n, items, sizes)
			hold(t, s, m)
		}
	}
}

// P8.6: so it is with long rows.
func TestLongRows(t *testing.T) {
	seed := uint64(13)
	s, m := row(t, rising(30000), slices.Repeat([]int{0, 3, 1}, 10000))
	for range 150 {
		i := turn(&seed, len(m.items)+1)
		n := turn(&seed, min(len(m.items)-i, 2000)+1)
		items := rising(turn(&seed, 2000))
		sizes := make([]int, len(items))
		for k := range sizes {
			sizes[k] = turn(&seed, 4)
		}
		both(t, s, m, i, n, items, sizes)
		some(t, s, m, &seed)
	}
}

// P8.6: Find of Sum(i) is i, where its size is above 0; Sum of what Find tells and the rest is off.
func TestFindOfSum(t *testing.T) {
	seed := uint64(17)
	for range 100 {
		sizes := make([]int, turn(&seed, 60))
		for i := range sizes {
			sizes[i] = turn(&seed, 4)
		}
		s, _ := sized(t, sizes...)
		for i, size := range sizes {
			place, err := s.Sum(i)
			if err != api.OK {
				t.Fatalf("Sum(%d) = %d", i, err)
			}
			if k, rest, err := s.Find(place); size > 0 && (k != i || rest != 0 || err != api.OK) {
				t.Fatalf("Find(%d) of %v = %d, %d, %d, not %d", place, sizes, k, rest, err, i)
			}
		}
		for off := range s.Size() {
			i, rest, err := s.Find(off)
			if err != api.OK {
				t.Fatalf("Find(%d) = %d", off, err)
			}
			if place, err := s.Sum(i); place+rest != off || rest >= sizes[i] || err != api.OK {
				t.Fatalf("Find(%d) of %v = %d, %d, where Sum is %d, %d", off, sizes, i, rest, place, err)
			}
		}
	}
}

// P8.6: one change at one time, and the same by pieces: items taken and put one by one, from the front, from behind, and in pieces of any length.
func TestPieces(t *testing.T) {
	seed := uint64(19)
	for range 200 {
		have := turn(&seed, 40)
		i := turn(&seed, have+1)
		n := turn(&seed, have-i+1)
		items, sizes := rising(turn(&seed, 30)), rising(40)
		sizes = sizes[:len(items)]
		whole, m := sized(t, rising(have)...)
		both(t, whole, m, i, n, items, sizes)
		hold(t, whole, m)
		front, _ := sized(t, rising(have)...)
		for range n {
			splice(t, front, i, 1, nil, nil, api.OK)
		}
		for k := range items {
			splice(t, front, i+k, 0, items[k:k+1], sizes[k:k+1], api.OK)
		}
		hold(t, front, m)
		behind, _ := sized(t, rising(have)...)
		for k := len(items) - 1; k >= 0; k-- {
			splice(t, behind, i+n, 0, items[k:k+1], sizes[k:k+1], api.OK)
		}
		for k := n - 1; k >= 0; k-- {
			splice(t, behind, i+k, 1, nil, nil, api.OK)
		}
		hold(t, behind, m)
		parts, _ := sized(t, rising(have)...)
		for from, left := 0, n; from < len(items) || left > 0; {
			k, gone := turn(&seed, len(items)-from+1), turn(&seed, left+1)
			splice(t, parts, i+from, gone, items[from:from+k], sizes[from:from+k], api.OK)
			from, left = from+k, left-gone
		}
		hold(t, parts, m)
	}
}

// P8.1 to P8.4: items of many types, such among them as are not compared.
func TestTypes(t *testing.T) {
	type pair struct {
		name string
		at   *int
	}
	x, y := 1, 1
	types(t, 1, -2, 3)
	types(t, "a", "", "c\xff")
	types(t, true, false, true)
	types(t, 1.5, math.Inf(1), 0)
	types(t, &x, nil, &y)
	types(t, pair{"a", &x}, pair{}, pair{"a", &y})
	types(t, [3]uint8{1}, [3]uint8{}, [3]uint8{2, 3})
	types[any](t, 1, nil, "a")
	types[error](t, api.ErrArg, nil, api.ErrNil)
	types(t, struct{}{}, struct{}{}, struct{}{})
	lists := seq.New[[]int]()
	splice(t, lists, 0, 0, [][]int{{1}, nil, {2, 3}}, []int{1, 0, 2}, api.OK)
	if l, n, err := lists.At(2); !slices.Equal(l, []int{2, 3}) || n != 2 || err != api.OK {
		t.Errorf("At(2) = %v, %d, %d", l, n, err)
	}
	if l, n, err := lists.At(3); l != nil || n != 0 || err != api.ErrRange {
		t.Errorf("At(3) = %v, %d, %d", l, n, err)
	}
	calls := seq.New[func() int]()
	splice(t, calls, 0, 0, []func() int{func() int { return 4 }, nil}, []int{1, 0}, api.OK)
	for i, call := range calls.All() {
		if i == 0 && call() != 4 || i == 1 && call != nil {
			t.Errorf("item %d is another one", i)
		}
	}
}

// types holds a row of three items of a type, spliced some times, against its model.
func types[T comparable](t *testing.T, a, b, c T) {
	t.Helper()
	s, m := row(t, []T{a, b, c}, []int{2, 0, 3})
	hold(t, s, m)
	both(t, s, m, 1, 1, []T{c, c, a}, []int{1, 1, 1})
	hold(t, s, m)
	both(t, s, m, 0, 2, nil, nil)
	hold(t, s, m)
	both(t, s, m, 5, 0, []T{a}, []int{1})
	both(t, s, m, 0, 0, []T{a}, nil)
	both(t, s, m, 3, 0, []T{b}, []int{full})
	hold(t, s, m)
}

// P8.1: lists that are handed in stay as they were, with the room behind their ends, taken or refused; what is written to them later shows nowhere.
func TestNothingIsKeptOfWhatIsPut(t *testing.T) {
	for _, n := range []int{0, 1, 2, 9, 1000} {
		for _, x := range []struct {
			i, n int
			want api.Errno
		}{{0, 0, api.OK}, {1, 2, api.OK}, {4, 0, api.OK}, {5, 0, api.ErrRange}, {0, -1, api.ErrRange}} {
			s, m := sized(t, 1, 2, 3, 4)
			items, sizes := rising(n+3), rising(n+3)
			splice(t, s, x.i, x.n, items[:n], sizes[:n], x.want)
			if !slices.Equal(items, rising(n+3)) || !slices.Equal(sizes, rising(n+3)) {
				t.Fatalf("%d items that are handed in were changed to %v, %v", n, items, sizes)
			}
			m.splice(x.i, x.n, items[:n], sizes[:n])
			all := s.All()
			for k := range items {
				items[k], sizes[k] = -9, -9
			}
			told(t, all, m.items)
			hold(t, s, m)
			items, sizes = rising(n+3), rising(n+3)
			splice(t, s, 0, 0, items[:n+1], sizes[:n], api.ErrArg)
			sizes[n] = -1
			splice(t, s, 0, 0, items[:n+1], sizes[:n+1], api.ErrArg)
			sizes[n] = full
			splice(t, s, 0, 0, items[:n+1], sizes[:n+1], api.ErrLong)
			if sizes[n] = n; !slices.Equal(items, rising(n+3)) || !slices.Equal(sizes, rising(n+3)) {
				t.Fatalf("%d items that are handed in were changed to %v, %v", n+1, items, sizes)
			}
			hold(t, s, m)
		}
	}
}

// P8.2, P8.4: what is written to an item that is told shows neither in the row nor in what is told later.
func TestAnswersAreApart(t *testing.T) {
	type point struct{ x, y int }
	s, m := row(t, []point{{1, 2}, {3, 4}, {5, 6}}, []int{1, 1, 1})
	x, _, _ := s.At(1)
	x.x = 99
	hold(t, s, m)
	all := s.All()
	for _, x := range all {
		x.y = -9
		_ = x
	}
	told(t, all, m.items)
	hold(t, s, m)
}

// P8.1 to P8.6: two rows have nothing to do with one another, spliced in turns, with the same lists and with what the other tells.
func TestRowsAreApart(t *testing.T) {
	seed := uint64(23)
	var all []*seq.Seq[int]
	var models []*model[int]
	for range 4 {
		s, m := sized(t)
		all, models = append(all, s), append(models, m)
	}
	for range 400 {
		a, b := turn(&seed, 4), turn(&seed, 4)
		var items []int
		for _, x := range all[b].All() {
			items = append(items, x+b)
		}
		items = append(items[:min(len(items), 3)], turn(&seed, 100))
		i := turn(&seed, len(models[a].items)+1)
		n := turn(&seed, min(len(models[a].items)-i, 4)+1)
		both(t, all[a], models[a], i, n, items, rising(len(items)))
		for k := range all {
			counted(t, all[k], models[k])
			told(t, all[k].All(), models[k].items)
		}
	}
	for k := range all {
		hold(t, all[k], models[k])
	}
}
