package edit_test

import (
	"fmt"
	"math"
	"math/big"
	"strings"
	"testing"
	"unsafe"

	"indenture/api"
	"indenture/edit"
)

// far are numbers that are no place of any text, and no count of its bytes.
var far = []int{math.MinInt, math.MinInt + 1, -1 << 62, -1 << 32, -api.MaxText - 1, -api.MaxText, -2, -1, 1 << 32, 1 << 40, 1 << 62, 1<<62 + 1, math.MaxInt - 1, math.MaxInt}

// near are numbers that may be places of a text, and those about the greatest such.
var near = []int{0, 1, 2, 3, 7, api.MaxText - 2, api.MaxText - 1, api.MaxText, api.MaxText + 1, 2 * api.MaxText, 2*api.MaxText + 1}

// turn goes on to the next number of a row that looks unordered, and answers one from 0 to n - 1.
func turn(seed *uint64, n int) int {
	*seed = *seed*6364136223846793005 + 1442695040888963407
	return int(*seed >> 33 % uint64(n))
}

// words are all texts of at most n bytes out of the given ones.
func words(bytes string, n int) []string {
	all := []string{""}
	for from := 0; n > 0; n-- {
		to := len(all)
		for _, s := range all[from:to] {
			for i := range len(bytes) {
				all = append(all, s+bytes[i:i+1])
			}
		}
		from = to
	}
	return all
}

// long is a text of n bytes without a short piece that comes again and again.
func long(n int) string {
	seed := uint64(n)
	b := make([]byte, n)
	for i := range b {
		b[i] = byte(turn(&seed, 256))
	}
	return string(b)
}

// show tells an edit without all of a long Ins.
func show(e api.Edit) string {
	if len(e.Ins) > 20 {
		return fmt.Sprintf("{Pos %d, Del %d, Ins of %d bytes}", e.Pos, e.Del, len(e.Ins))
	}
	return fmt.Sprintf("{Pos %d, Del %d, Ins %q}", e.Pos, e.Del, e.Ins)
}

// allowed is what Check tells, by numbers that do not go round.
func allowed(n int, e api.Edit) api.Errno {
	num := func(i int) *big.Int { return big.NewInt(int64(i)) }
	pos, del, size := num(e.Pos), num(e.Del), num(n)
	rest := new(big.Int).Sub(size, pos)
	if pos.Sign() < 0 || del.Sign() < 0 || pos.Cmp(size) > 0 || del.Cmp(rest) > 0 {
		return api.ErrRange
	}
	left := new(big.Int).Sub(size, del)
	if left.Add(left, num(len(e.Ins))).Cmp(num(api.MaxText)) > 0 {
		return api.ErrLong
	}
	return api.OK
}

// made is what comes of an edit that may be, byte by byte.
func made(text string, e api.Edit) string {
	var b []byte
	for i := range len(text) + 1 {
		if i == e.Pos {
			b = append(b, e.Ins...)
		}
		if i < len(text) && (i < e.Pos || i >= e.Pos+e.Del) {
			b = append(b, text[i])
		}
	}
	return string(b)
}

// check holds what Check tells against what is wanted.
func check(t *testing.T, n int, e api.Edit, want api.Errno) {
	t.Helper()
	if err := edit.Check(n, e); err != want {
		t.Fatalf("Check(%d, %s) = %v, not %v", n, show(e), err, want)
	}
}

// apply is what Apply makes of an edit that may be; it is held against the edit's bytes.
func apply(t *testing.T, text string, e api.Edit) string {
	t.Helper()
	got, err := edit.Apply(text, e)
	if want := made(text, e); got != want || err != api.OK {
		t.Fatalf("Apply(%d bytes, %s) = %.20q of %d bytes, %v, not %.20q of %d", len(text), show(e), got, len(got), err, want, len(want))
	}
	return got
}

// back is what Back makes of an edit that may be; it is held against the edit.
func back(t *testing.T, text string, e api.Edit) api.Edit {
	t.Helper()
	got, err := edit.Back(text, e)
	if want := (api.Edit{Pos: e.Pos, Del: len(e.Ins), Ins: text[e.Pos:][:e.Del]}); got != want || err != api.OK {
		t.Fatalf("Back(%d bytes, %s) = %s, %v, not %s", len(text), show(e), show(got), err, show(want))
	}
	return got
}

// refused tells that an edit of a text may not be, that all calls tell so alike, and nothing beside.
func refused(t *testing.T, text string, e api.Edit, want api.Errno) {
	t.Helper()
	check(t, len(text), e, want)
	if got, err := edit.Apply(text, e); got != "" || err != want {
		t.Fatalf("Apply(%d bytes, %s) = %d bytes, %v, not %v", len(text), show(e), len(got), err, want)
	}
	if got, err := edit.Back(text, e); got != (api.Edit{}) || err != want {
		t.Fatalf("Back(%d bytes, %s) = %s, %v, not %v", len(text), show(e), show(got), err, want)
	}
}

// done is what comes of an edit that may be; all that P4.5 tells of it is held.
func done(t *testing.T, text string, e api.Edit) string {
	t.Helper()
	check(t, len(text), e, api.OK)
	now := apply(t, text, e)
	undo := back(t, text, e)
	check(t, len(now), undo, api.OK)
	if was := apply(t, now, undo); was != text {
		t.Fatalf("%s, taken back, makes %.20q of %.20q", show(e), was, text)
	}
	if redo := back(t, now, undo); redo != e {
		t.Fatalf("%s, taken back twice, is %s", show(e), show(redo))
	}
	return now
}

// move holds where a place goes against what is wanted.
func move(t *testing.T, e api.Edit, at, want int) {
	t.Helper()
	if got := edit.Move(e, at); got != want {
		t.Fatalf("Move(%s, %d) = %d, not %d", show(e), at, got, want)
	}
}

// diff holds the edit from a to b against what is wanted.
func diff(t *testing.T, a, b string, pos, del int, ins string) {
	t.Helper()
	if got, want := edit.Diff(a, b), (api.Edit{Pos: pos, Del: del, Ins: ins}); got != want {
		t.Fatalf("Diff(%.20q, %.20q) = %s, not %s", a, b, show(got), show(want))
	}
}

// P4.1 to P4.4: the examples of the chapter.
func TestExamples(t *testing.T) {
	check(t, 3, api.Edit{Pos: 4}, api.ErrRange)
	check(t, 3, api.Edit{Pos: 2, Del: 2}, api.ErrRange)
	check(t, 1<<20, api.Edit{Ins: "a"}, api.ErrLong)
	check(t, 3, api.Edit{Pos: 3}, api.OK)
	e := api.Edit{Pos: 1, Del: 2, Ins: "X"}
	if s, err := edit.Apply("abcd", e); s != "aXd" || err != api.OK {
		t.Errorf("Apply = %q, %v", s, err)
	}
	if b, err := edit.Back("abcd", e); b != (api.Edit{Pos: 1, Del: 1, Ins: "bc"}) || err != api.OK {
		t.Errorf("Back = %s, %v", show(b), err)
	}
	for at, want := range []int{0, 2, 2, 2, 3} {
		move(t, e, at, want)
	}
	diff(t, "abcd", "abXd", 2, 1, "X")
	diff(t, "aa", "a", 1, 1, "")
	diff(t, "a", "a", 1, 0, "")
}

// P4.1: places at the end and past it, below 0, and as far out as an int goes; counts of bytes that no text has.
func TestCheck(t *testing.T) {
	for _, x := range []struct {
		n, pos, del, ins int
		want             api.Errno
	}{
		{0, 0, 0, 0, api.OK}, {0, 0, 0, 5, api.OK}, {0, 0, 1, 0, api.ErrRange}, {0, 1, 0, 0, api.ErrRange}, {0, -1, 0, 0, api.ErrRange}, {0, 0, -1, 0, api.ErrRange},
		{3, 0, 3, 0, api.OK}, {3, 0, 4, 0, api.ErrRange}, {3, 1, 2, 0, api.OK}, {3, 1, 3, 0, api.ErrRange}, {3, 3, 0, 1, api.OK}, {3, 3, 1, 0, api.ErrRange}, {3, 4, 0, 0, api.ErrRange},
		{3, -1, 1, 0, api.ErrRange}, {3, 1, -1, 0, api.ErrRange}, {3, 4, -1, 0, api.ErrRange}, {3, 5, -2, 0, api.ErrRange},
		{3, math.MinInt, 0, 0, api.ErrRange}, {3, math.MaxInt, 0, 0, api.ErrRange}, {3, 0, math.MinInt, 0, api.ErrRange}, {3, 0, math.MaxInt, 0, api.ErrRange},
		{3, math.MaxInt, math.MaxInt, 0, api.ErrRange}, {3, 3, math.MaxInt, 0, api.ErrRange}, {3, math.MinInt, math.MaxInt, 0, api.ErrRange}, {3, math.MaxInt, math.MinInt, 0, api.ErrRange},
		{-1, 0, 0, 0, api.ErrRange}, {-1, -1, 0, 0, api.ErrRange}, {-5, 0, -5, 0, api.ErrRange}, {math.MinInt, 0, 0, 0, api.ErrRange}, {math.MinInt, math.MaxInt, math.MaxInt, 0, api.ErrRange},
		{api.MaxText, 0, 0, 0, api.OK}, {api.MaxText, 0, 0, 1, api.ErrLong}, {api.MaxText, api.MaxText, 0, 1, api.ErrLong}, {api.MaxText, 7, 1, 1, api.OK}, {api.MaxText, 7, 1, 2, api.ErrLong},
		{api.MaxText + 1, 0, 0, 0, api.ErrLong}, {api.MaxText + 1, 0, 1, 0, api.OK}, {api.MaxText + 1, api.MaxText + 1, 0, 0, api.ErrLong}, {api.MaxText + 1, api.MaxText + 1, 1, 0, api.ErrRange},
		{math.MaxInt, 0, 0, 0, api.ErrLong}, {math.MaxInt, 0, 0, api.MaxText, api.ErrLong}, {math.MaxInt, 0, math.MaxInt, 0, api.OK}, {math.MaxInt, 0, math.MaxInt, api.MaxText, api.OK},
		{math.MaxInt, 0, math.MaxInt, api.MaxText + 1, api.ErrLong}, {math.MaxInt, 1, math.MaxInt, 0, api.ErrRange}, {math.MaxInt, math.MaxInt, 0, 9, api.ErrLong}, {math.MaxInt, math.MaxInt, 1, 9, api.ErrRange},
		{math.MaxInt, 5, math.MaxInt - 5, 0, api.OK}, {math.MaxInt, 5, math.MaxInt - 4, 0, api.ErrRange},
	} {
		check(t, x.n, api.Edit{Pos: x.pos, Del: x.del, Ins: strings.Repeat("x", x.ins)}, x.want)
	}
}

// P4.1: so it is with all numbers about the bounds, one with the other.
func TestCheckOfManyNumbers(t *testing.T) {
	numbers := append(append([]int{}, far...), near...)
	for _, size := range []int{0, 1, 2, 3, api.MaxText - 1, api.MaxText, api.MaxText + 1, 2 * api.MaxText} {
		ins := strings.Repeat("x", size)
		for _, n := range numbers {
			for _, pos := range numbers {
				for _, del := range append([]int{n - pos, n - pos + 1, n - api.MaxText, n - api.MaxText + size, n - api.MaxText + size - 1}, numbers...) {
					e := api.Edit{Pos: pos, Del: del, Ins: ins}
					check(t, n, e, allowed(n, e))
				}
			}
		}
	}
}

// P4.1, P4.3, P4.5: all edits of short texts, an empty one among them: at the beginning, at the end, of all, of nothing, with nothing put, and those out of bounds.
func TestEditsOfShortTexts(t *testing.T) {
	for _, text := range []string{"", "a", "ab", "abcd", "\n", "a\nbc\n", "\x00\xff\xc3\xa9", "aaaa"} {
		for _, ins := range []string{"", "x", "a", "\n", "\xa9\xc3", "p\nqr"} {
			for pos := -2; pos <= len(text)+2; pos++ {
				for del := -2; del <= len(text)+2; del++ {
					e := api.Edit{Pos: pos, Del: del, Ins: ins}
					if pos < 0 || del < 0 || pos+del > len(text) {
						refused(t, text, e, api.ErrRange)
						continue
					}
					done(t, text, e)
				}
			}
			for _, n := range far {
				refused(t, text, api.Edit{Pos: n, Ins: ins}, api.ErrRange)
				refused(t, text, api.Edit{Del: n, Ins: ins}, api.ErrRange)
				refused(t, text, api.Edit{Pos: n, Del: n, Ins: ins}, api.ErrRange)
				refused(t, text, api.Edit{Pos: len(text), Del: n, Ins: ins}, api.ErrRange)
				refused(t, text, api.Edit{Pos: -n, Del: n, Ins: ins}, api.ErrRange)
			}
		}
	}
}

// P4.1, P4.3: what some edits make, and what takes it back, written out.
func TestApplyAndBack(t *testing.T) {
	for _, x := range []struct {
		text string
		e    api.Edit
		now  string
		undo api.Edit
	}{
		{"", api.Edit{}, "", api.Edit{}},
		{"", api.Edit{Ins: "ab"}, "ab", api.Edit{Del: 2}},
		{"abc", api.Edit{}, "abc", api.Edit{}},
		{"abc", api.Edit{Pos: 2}, "abc", api.Edit{Pos: 2}},
		{"abc", api.Edit{Del: 3}, "", api.Edit{Ins: "abc"}},
		{"abc", api.Edit{Del: 3, Ins: "xy"}, "xy", api.Edit{Del: 2, Ins: "abc"}},
		{"abc", api.Edit{Ins: "xy"}, "xyabc", api.Edit{Del: 2}},
		{"abc", api.Edit{Pos: 3, Ins: "xy"}, "abcxy", api.Edit{Pos: 3, Del: 2}},
		{"abc", api.Edit{Pos: 2, Del: 1}, "ab", api.Edit{Pos: 2, Ins: "c"}},
		{"abc", api.Edit{Del: 1}, "bc", api.Edit{Ins: "a"}},
		{"abc", api.Edit{Pos: 1, Del: 1, Ins: "b"}, "abc", api.Edit{Pos: 1, Del: 1, Ins: "b"}},
		{"\xc3\xa9", api.Edit{Pos: 1, Ins: "\n\xff"}, "\xc3\n\xff\xa9", api.Edit{Pos: 1, Del: 2}},
		{"\xc3\xa9", api.Edit{Pos: 1, Del: 1, Ins: "\x00"}, "\xc3\x00", api.Edit{Pos: 1, Del: 1, Ins: "\xa9"}},
	} {
		if now, err := edit.Apply(x.text, x.e); now != x.now || err != api.OK {
			t.Errorf("Apply(%q, %s) = %q, %v", x.text, show(x.e), now, err)
		}
		if undo, err := edit.Back(x.text, x.e); undo != x.undo || err != api.OK {
			t.Errorf("Back(%q, %s) = %s, %v", x.text, show(x.e), show(undo), err)
		}
	}
}

// P4.1, P4.3: a text of just as many bytes as it may have, and edits that put more, as many or fewer bytes than they take; what is out of bounds is told ahead of what is too long.
func TestLongestText(t *testing.T) {
	const end = api.MaxText
	text := long(end)
	for _, x := range []struct {
		pos, del, ins int
		want          api.Errno
	}{
		{0, 0, 0, api.OK}, {0, 0, 1, api.ErrLong}, {end, 0, 0, api.OK}, {end, 0, 1, api.ErrLong}, {end / 2, 0, 1, api.ErrLong},
		{end - 1, 1, 0, api.OK}, {end - 1, 1, 1, api.OK}, {end - 1, 1, 2, api.ErrLong}, {0, 1, 1, api.OK}, {0, 1, 2, api.ErrLong},
		{end / 2, 100, 99, api.OK}, {end / 2, 100, 100, api.OK}, {end / 2, 100, 101, api.ErrLong},
		{0, end, 0, api.OK}, {0, end, end, api.OK}, {0, end, end + 1, api.ErrLong}, {0, 0, 2 * end, api.ErrLong},
		{end + 1, 0, 1, api.ErrRange}, {end, 1, 2, api.ErrRange}, {-1, 0, 1, api.ErrRange}, {0, -1, 1, api.ErrRange}, {1, end, 2 * end, api.ErrRange},
		{math.MaxInt, math.MaxInt, 1, api.ErrRange}, {end, math.MaxInt, 1, api.ErrRange}, {math.MinInt, 0, 1, api.ErrRange}, {0, math.MinInt, 1, api.ErrRange},
	} {
		e := api.Edit{Pos: x.pos, Del: x.del, Ins: strings.Repeat("y", x.ins)}
		if x.want == api.OK {
			done(t, text, e)
			continue
		}
		refused(t, text, e, x.want)
	}
	done(t, "", api.Edit{Ins: text})
	done(t, text[:end/2], api.Edit{Pos: 7, Ins: text[end/2:]})
	refused(t, text[:end/2], api.Edit{Pos: 7, Ins: text[end/2-1:]}, api.ErrLong)
	refused(t, "", api.Edit{Ins: text + "y"}, api.ErrLong)
	refused(t, "", api.Edit{Del: 1, Ins: text + "y"}, api.ErrRange)
	refused(t, text+"y", api.Edit{}, api.ErrLong)
	refused(t, text+"y", api.Edit{Pos: end + 2}, api.ErrRange)
	if now := apply(t, text+"y", api.Edit{Pos: end, Del: 1}); now != text {
		t.Error("what comes of a text that is too long is another one")
	}
}

// P4.2: places ahead of what is taken, at its beginning, within, at its end and behind.
func TestMove(t *testing.T) {
	for _, x := range []struct {
		e        api.Edit
		at, want int
	}{
		{api.Edit{Pos: 3, Del: 4, Ins: "XY"}, 0, 0}, {api.Edit{Pos: 3, Del: 4, Ins: "XY"}, 2, 2}, {api.Edit{Pos: 3, Del: 4, Ins: "XY"}, 3, 5}, {api.Edit{Pos: 3, Del: 4, Ins: "XY"}, 5, 5},
		{api.Edit{Pos: 3, Del: 4, Ins: "XY"}, 6, 5}, {api.Edit{Pos: 3, Del: 4, Ins: "XY"}, 7, 5}, {api.Edit{Pos: 3, Del: 4, Ins: "XY"}, 8, 6}, {api.Edit{Pos: 3, Del: 4, Ins: "XY"}, 100, 98},
		{api.Edit{Pos: 3, Del: 4}, 2, 2}, {api.Edit{Pos: 3, Del: 4}, 3, 3}, {api.Edit{Pos: 3, Del: 4}, 6, 3}, {api.Edit{Pos: 3, Del: 4}, 7, 3}, {api.Edit{Pos: 3, Del: 4}, 8, 4},
		{api.Edit{Pos: 3, Ins: "XY"}, 2, 2}, {api.Edit{Pos: 3, Ins: "XY"}, 3, 5}, {api.Edit{Pos: 3, Ins: "XY"}, 4, 6},
		{api.Edit{Ins: "XY"}, 0, 2}, {api.Edit{Del: 1}, 0, 0}, {api.Edit{Del: 1}, 1, 0}, {api.Edit{Del: 1, Ins: "X"}, 0, 1}, {api.Edit{Del: 1, Ins: "X"}, 1, 1},
		{api.Edit{}, 0, 0}, {api.Edit{}, 7, 7}, {api.Edit{Pos: 7}, 7, 7}, {api.Edit{Ins: "X"}, -1, -1}, {api.Edit{Del: 5}, -1, -1}, {api.Edit{Del: 5, Ins: "X"}, math.MinInt, math.MinInt},
		{api.Edit{Pos: 3, Ins: "X"}, -3, -3}, {api.Edit{Ins: "X"}, -1 << 40, -1 << 40},
	} {
		move(t, x.e, x.at, x.want)
	}
}

// P4.2: places up to 2^40 move, those past it do not.
func TestMoveOfFarPlaces(t *testing.T) {
	const last = 1 << 40
	most := strings.Repeat("x", api.MaxText)
	for _, e := range []api.Edit{
		{}, {Ins: "x"}, {Del: 1}, {Pos: 5, Del: 3, Ins: "xy"}, {Ins: most}, {Del: api.MaxText}, {Pos: api.MaxText, Del: api.MaxText}, {Pos: api.MaxText, Del: api.MaxText, Ins: most}, {Pos: api.MaxText, Ins: most},
	} {
		by := len(e.Ins) - e.Del
		for _, at := range []int{last - 1, last, last - api.MaxText, 1 << 39, 1 << 32, 1<<31 - 1, 2 * api.MaxText} {
			move(t, e, at, at+by)
		}
		for _, at := range []int{last + 1, last + 2, last + api.MaxText, 2 * last, 1 << 62, math.MaxInt - 1, math.MaxInt, -1, -2, -last, -last - 1, math.MinInt + 1, math.MinInt} {
			move(t, e, at, at)
		}
	}
}

// P4.2: an edit one of whose numbers is out of its bounds moves nothing; one whose numbers are just at them does.
func TestMoveOfEditsOutOfBounds(t *testing.T) {
	most := strings.Repeat("x", api.MaxText)
	var none []api.Edit
	for _, n := range append([]int{api.MaxText + 1, 2 * api.MaxText}, far...) {
		none = append(none, api.Edit{Pos: n}, api.Edit{Pos: n, Del: 1, Ins: "xy"}, api.Edit{Del: n}, api.Edit{Pos: 1, Del: n, Ins: "xy"}, api.Edit{Pos: n, Del: n, Ins: "x"}, api.Edit{Pos: -n, Del: n})
	}
	none = append(none, api.Edit{Ins: most + "x"}, api.Edit{Pos: 1, Del: 5, Ins: most + "x"}, api.Edit{Ins: most + most}, api.Edit{Pos: -1, Ins: "x"}, api.Edit{Pos: 3, Del: -1})
	for _, e := range none {
		for _, at := range append(append([]int{}, near...), far...) {
			move(t, e, at, at)
		}
	}
	move(t, api.Edit{Pos: api.MaxText, Ins: "x"}, api.MaxText, api.MaxText+1)
	move(t, api.Edit{Pos: api.MaxText, Ins: "x"}, api.MaxText-1, api.MaxText-1)
	move(t, api.Edit{Del: api.MaxText, Ins: "xy"}, api.MaxText-1, 2)
	move(t, api.Edit{Del: api.MaxText, Ins: "xy"}, api.MaxText, 2)
	move(t, api.Edit{Del: api.MaxText, Ins: "xy"}, api.MaxText+1, 3)
	move(t, api.Edit{Pos: api.MaxText, Del: api.MaxText, Ins: most}, 2*api.MaxText-1, 2*api.MaxText)
	move(t, api.Edit{Ins: most}, 0, api.MaxText)
	move(t, api.Edit{Ins: most}, 1, api.MaxText+1)
}

// P4.5: a byte that is not taken away stands where its place goes; those that are taken go behind what is put; no two places change their order.
func TestMovedBytes(t *testing.T) {
	const text = "abcdefgh"
	for pos := range len(text) + 1 {
		for del := range len(text) - pos + 1 {
			for _, ins := range []string{"", "X", "XY", "XYZXYZXYZXYZ"} {
				e := api.Edit{Pos: pos, Del: del, Ins: ins}
				now := done(t, text, e)
				for at := range len(text) {
					if at >= pos && at < pos+del {
						move(t, e, at, pos+len(ins))
						continue
					}
					move(t, e, at, strings.IndexByte(now, text[at]))
				}
				move(t, e, len(text), len(now))
				inOrder(t, e, len(text)+5)
			}
		}
	}
}

// inOrder tells that an edit turns the order of no two places about, of all from below 0 to n.
func inOrder(t *testing.T, e api.Edit, n int) {
	t.Helper()
	for at := -3; at < n; at++ {
		if from, to := edit.Move(e, at), edit.Move(e, at+1); from > to {
			t.Fatalf("%s moves %d to %d and %d to %d", show(e), at, from, at+1, to)
		}
	}
}

// P4.4: texts that are alike, that have a beginning, an end or both in common, or nothing.
func TestDiff(t *testing.T) {
	for _, x := range []struct {
		a, b     string
		pos, del int
		ins      string
	}{
		{"", "", 0, 0, ""}, {"", "abc", 0, 0, "abc"}, {"abc", "", 0, 3, ""}, {"abc", "abc", 3, 0, ""},
		{"abc", "xyz", 0, 3, "xyz"}, {"abc", "abcx", 3, 0, "x"}, {"abc", "xabc", 0, 0, "x"}, {"abcx", "abc", 3, 1, ""}, {"xabc", "abc", 0, 1, ""},
		{"abXcd", "abYZcd", 2, 1, "YZ"}, {"abcd", "abXYcd", 2, 0, "XY"}, {"abXYcd", "abcd", 2, 2, ""}, {"abX", "abYZ", 2, 1, "YZ"}, {"Xab", "YZab", 0, 1, "YZ"},
		{"aa", "aaa", 2, 0, "a"}, {"aaa", "aa", 2, 1, ""}, {"aaa", "", 0, 3, ""}, {"aba", "ababa", 3, 0, "ba"}, {"ababa", "aba", 3, 2, ""},
		{"abab", "ab", 2, 2, ""}, {"aXa", "aa", 1, 1, ""}, {"aa", "aXa", 1, 0, "X"}, {"abcabc", "abc", 3, 3, ""}, {"abba", "aba", 2, 1, ""},
		{"axya", "ayxa", 1, 2, "yx"}, {"a\nb\n", "a\n  b\n", 2, 0, "  "}, {"\xc3\xa9", "\xc3\xa8", 1, 1, "\xa8"}, {"\xc3\xa9", "\xc2\xa9", 0, 1, "\xc2"}, {"\x00", "\xff", 0, 1, "\xff"},
	} {
		diff(t, x.a, x.b, x.pos, x.del, x.ins)
	}
}

// P4.4, P4.5: of all pairs of short texts, the edit is the one whose Pos, and then whose rest, could not be greater.
func TestDiffOfShortTexts(t *testing.T) {
	texts := append(words("ab", 6), words("a\n\xff", 4)...)
	for _, a := range texts {
		for _, b := range texts {
			pos := min(len(a), len(b))
			for a[:pos] != b[:pos] {
				pos--
			}
			left := min(len(a), len(b)) - pos
			for a[len(a)-left:] != b[len(b)-left:] {
				left--
			}
			diff(t, a, b, pos, len(a)-pos-left, b[pos:len(b)-left])
			between(t, a, b)
		}
	}
}

// between tells that Diff of two texts makes the one of the other, and takes and puts no more than it must.
func between(t *testing.T, a, b string) {
	t.Helper()
	e := edit.Diff(a, b)
	if now := done(t, a, e); now != b {
		t.Fatalf("%s makes %.20q, not %.20q", show(e), now, b)
	}
	if e.Del > 0 && e.Ins != "" && (a[e.Pos] == e.Ins[0] || a[e.Pos+e.Del-1] == e.Ins[len(e.Ins)-1]) {
		t.Fatalf("Diff(%.20q, %.20q) = %s: an end of it is alike", a, b, show(e))
	}
}

// P4.4, P4.5: the longest texts that differ in nothing, in one byte, in their middle, and in all.
func TestDiffOfLongTexts(t *testing.T) {
	const end = api.MaxText
	text := long(end)
	other := func(at int) string { return text[:at] + string([]byte{text[at] ^ 1}) + text[at+1:] }
	for _, b := range []string{"", text, other(0), other(end - 1), other(end / 2), text[1:], text[:end-1], text[:1000] + text[2000:], "\n", strings.Repeat("x", end)} {
		between(t, text, b)
		between(t, b, text)
	}
	diff(t, text, other(end/2), end/2, 1, other(end / 2)[end/2:][:1])
	same := strings.Repeat("x", end)
	diff(t, same, same[1:], end-1, 1, "")
	diff(t, same[1:], same, end-1, 0, "x")
	diff(t, same, same+"xy", end, 0, "xy")
	diff(t, same+"yz"+same, same+same, end, 2, "")
	e := edit.Diff("", same+"x")
	diff(t, "", same+"x", 0, 0, same+"x")
	refused(t, "", e, api.ErrLong)
}

// some is an edit that may be of a text, with bytes out of few, so that what is put is often like what is taken.
func some(seed *uint64, text string, most int) api.Edit {
	pos := turn(seed, len(text)+1)
	del := turn(seed, min(most, len(text)-pos)+1)
	ins := make([]byte, turn(seed, min(most, api.MaxText-len(text)+del)+1))
	for i := range ins {
		ins[i] = "ab\n\xff"[turn(seed, 4)]
	}
	return api.Edit{Pos: pos, Del: del, Ins: string(ins)}
}

// P4.3, P4.5: what many edits do is taken back, edit by edit, to the first text, and done again to the last one; Diff leads from each text to any other.
func TestThereAndBack(t *testing.T) {
	seed := uint64(1)
	for _, size := range []int{0, 1, 10, 300, 5000} {
		texts := []string{long(size)}
		var undos []api.Edit
		for i := range 300 {
			e := some(&seed, texts[i], 1+size/20+turn(&seed, 6))
			undos = append(undos, back(t, texts[i], e))
			texts = append(texts, done(t, texts[i], e))
			inOrder(t, e, min(100, len(texts[i]))+3)
		}
		now := texts[300]
		var redos []api.Edit
		for i := 299; i >= 0; i-- {
			redos = append(redos, back(t, now, undos[i]))
			if now = apply(t, now, undos[i]); now != texts[i] {
				t.Fatalf("edit %d of a text of %d bytes, taken back, leads elsewhere", i, size)
			}
		}
		for i := range 300 {
			if now = apply(t, now, redos[299-i]); now != texts[i+1] {
				t.Fatalf("edit %d of a text of %d bytes, done again, leads elsewhere", i, size)
			}
			between(t, now, texts[turn(&seed, len(texts))])
		}
	}
}

// P4.3, P4.5: edits about the longest text's length, taken back.
func TestThereAndBackOfLongTexts(t *testing.T) {
	seed := uint64(2)
	text := long(api.MaxText - 100)
	first, undos := text, []api.Edit{}
	for range 20 {
		e := some(&seed, text, 1000)
		undos = append(undos, back(t, text, e))
		text = done(t, text, e)
	}
	for i := len(undos) - 1; i >= 0; i-- {
		text = apply(t, text, undos[i])
	}
	if text != first {
		t.Error("what was done is not taken back")
	}
}

// inside tells whether the bytes of part are bytes of whole themselves, and no copy.
func inside(part, whole string) bool {
	from := uintptr(unsafe.Pointer(unsafe.StringData(whole)))
	at := uintptr(unsafe.Pointer(unsafe.StringData(part)))
	return part != "" && at >= from && at < from+uintptr(len(whole))
}

// P4.1, P4.3, P4.4: texts that are told are new ones, though an edit takes nothing, or nothing is left beside what it puts.
func TestNothingIsShared(t *testing.T) {
	for _, n := range []int{1, 2, 100, 5000} {
		text, ins := long(n), "x"+long(n)
		for _, e := range []api.Edit{{}, {Pos: n}, {Del: n, Ins: ins}, {Ins: ins}, {Pos: n, Ins: ins}, {Pos: n / 2, Del: n - n/2}, {Del: n / 2}} {
			now, _ := edit.Apply(text, e)
			undo, _ := edit.Back(text, e)
			if inside(now, text) || inside(now, ins) || inside(undo.Ins, text) {
				t.Fatalf("%s of %d bytes shares them", show(e), n)
			}
		}
		for _, a := range []string{"", "x", ins[:n], text} {
			if e := edit.Diff(a, ins); inside(e.Ins, ins) {
				t.Fatalf("Diff to %d bytes shares them", len(ins))
			}
		}
	}
}
