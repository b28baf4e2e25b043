package build_test

import (
	"math"
	"slices"
	"testing"

	"indenture/api"
	"indenture/build"
	"indenture/tree"
)

const last = api.MaxText

// far are numbers that are no places of a text.
var far = []int{math.MinInt, math.MinInt + 1, math.MinInt + last, -1 << 62, -1 << 40, -last - 1, -last, -2, -1, last + 1, 2*last + 1, 1 << 40, 1 << 62, math.MaxInt - last, math.MaxInt - 1, math.MaxInt}

// open is the event that a node of a kind begins.
func open(kind uint8, at int) api.Event { return api.Event{Op: api.OpOpen, Kind: kind, At: at} }

// shut is the event that the node which was opened last ends.
func shut(kind uint8, at int) api.Event { return api.Event{Op: api.OpClose, Kind: kind, At: at} }

// leaf is the event of a leaf.
func leaf(kind uint8, from, to int) api.Event {
	return api.Event{Op: api.OpLeaf, Kind: kind, At: from, To: to}
}

// evs is a list of events.
func evs(l ...api.Event) []api.Event { return l }

// list is a list of nodes, of each its depth, kind, From and To.
func list(numbers ...int) []api.Node {
	var l []api.Node
	for i := 0; i+3 < len(numbers); i += 4 {
		l = append(l, api.Node{Depth: numbers[i], Kind: uint8(numbers[i+1]), From: numbers[i+2], To: numbers[i+3]})
	}
	return l
}

// turn goes on to the next number of a row that looks unordered, and answers one from 0 to n - 1.
func turn(seed *uint64, n int) int {
	*seed = *seed*6364136223846793005 + 1442695040888963407
	return int(*seed >> 33 % uint64(n))
}

// model is what a builder has to be, by the words alone: a kind, and the events that were put, their places counted from the text's beginning.
type model struct {
	kind uint8
	did  []api.Event
}

// far is how far it came.
func (m *model) far() int {
	if len(m.did) == 0 {
		return 0
	}
	x := m.did[len(m.did)-1]
	if x.Op == api.OpLeaf {
		return x.To
	}
	return x.At
}

// open is how many nodes are open beside the root, behind the first n events.
func (m *model) open(n int) int {
	k := 0
	for _, x := range m.did[:n] {
		switch x.Op {
		case api.OpOpen:
			k++
		case api.OpClose:
			k--
		}
	}
	return k
}

// refusal is the error of an event whose places count from at.
func (m *model) refusal(e api.Event, at int) api.Errno {
	may := func(place, from int) bool {
		// A number that is no place, even counted from behind a text, is brought to one that is none either.
		place = min(max(place, -2*last), 2*last)
		return at+place >= from && at+place <= last
	}
	switch {
	case e.Op != api.OpOpen && e.Op != api.OpClose && e.Op != api.OpLeaf:
		return api.ErrArg
	case !may(e.At, m.far()):
		return api.ErrOrder
	case e.Op == api.OpLeaf && (!may(e.To, m.far()) || e.To < e.At):
		return api.ErrOrder
	case e.Op == api.OpClose && m.open(len(m.did)) == 0:
		return api.ErrClose
	}
	return api.OK
}

// put puts events, or none of them.
func (m *model) put(l []api.Event, at int) api.Errno {
	if at < 0 || at > last {
		return api.ErrArg
	}
	old := len(m.did)
	for _, e := range l {
		if err := m.refusal(e, at); err != api.OK {
			m.did = m.did[:old]
			return err
		}
		e.At += at
		if e.Op == api.OpLeaf {
			e.To += at
		}
		m.did = append(m.did, e)
	}
	return api.OK
}

// done are all nodes, those that are open ending at n.
func (m *model) done(n int) []api.Node {
	l := []api.Node{{Kind: m.kind, To: n}}
	for i, e := range m.did {
		x := api.Node{Kind: e.Kind, From: e.At, To: e.To, Depth: m.open(i) + 1}
		if e.Op == api.OpClose {
			continue
		}
		if e.Op == api.OpOpen {
			x.To = n
			m.ends(i, &x)
		}
		l = append(l, x)
	}
	return l
}

// ends gives a node that the event i opened its end, and the kind that it has then, if there is an event that closes it.
func (m *model) ends(i int, x *api.Node) {
	level := 0
	for _, e := range m.did[i:] {
		switch e.Op {
		case api.OpOpen:
			level++
		case api.OpClose:
			level--
		}
		if level == 0 {
			x.To = e.At
			if e.Kind != 0 {
				x.Kind = e.Kind
			}
			return
		}
	}
}

// hold holds all that a builder tells of itself against a model.
func hold(t *testing.T, b *build.Builder, m *model) {
	t.Helper()
	if got, want := b.Open(), m.open(len(m.did)); got != want {
		t.Fatalf("behind %v: Open = %d, not %d", m.did, got, want)
	}
	if got := b.Far(); got != m.far() {
		t.Fatalf("behind %v: Far = %d, not %d", m.did, got, m.far())
	}
	for _, n := range []int{m.far(), m.far() + 1, last - 1, last} {
		if n <= last && n >= m.far() {
			told(t, b, n, m.done(n))
		}
	}
	for _, n := range append([]int{m.far() - 1}, far...) {
		untold(t, b, n, api.ErrOrder)
	}
}

// told holds what Done answers against nodes, and against a tree, if the root is of KindText.
func told(t *testing.T, b *build.Builder, n int, want []api.Node) {
	t.Helper()
	got, err := b.Done(n)
	if !slices.Equal(got, want) || err != api.OK {
		t.Fatalf("Done(%d) = %v, %d, not %v", n, got, err, want)
	}
	if got[0].Kind != api.KindText {
		return
	}
	if err := tree.Check(got, n); err != api.OK {
		t.Fatalf("Done(%d) = %v is no tree of %d bytes", n, got, n)
	}
}

// untold holds Done against an error.
func untold(t *testing.T, b *build.Builder, n int, want api.Errno) {
	t.Helper()
	if l, err := b.Done(n); len(l) != 0 || err != want {
		t.Fatalf("Done(%d) = %v, %d, not error %d", n, l, err, want)
	}
}

// put holds what Put answers of a builder against an error.
func put(t *testing.T, b *build.Builder, l []api.Event, at int, want api.Errno) {
	t.Helper()
	if err := b.Put(l, at); err != want {
		t.Fatalf("Put(%v, %d) = %d, not %d", l, at, err, want)
	}
}

// both puts events to a builder and to a model, and holds the one against the other.
func both(t *testing.T, b *build.Builder, m *model, l []api.Event, at int) api.Errno {
	t.Helper()
	want := m.put(l, at)
	put(t, b, l, at, want)
	return want
}

// at is a builder that came to a place, with as many nodes open, and its model.
func at(t *testing.T, place, nodes int) (*build.Builder, *model) {
	t.Helper()
	b, m := build.New(api.KindText), &model{kind: api.KindText}
	l := evs(leaf(9, 0, place))
	for range nodes {
		l = append(l, open(10, place))
	}
	if err := both(t, b, m, l, 0); err != api.OK {
		t.Fatalf("no builder comes to %d: %d", place, err)
	}
	return b, m
}

// P7.1 to P7.3: the examples of the chapter.
func TestExamples(t *testing.T) {
	b := build.New(api.KindText)
	put(t, b, evs(open(10, 0), leaf(11, 0, 2)), 0, api.OK)
	put(t, b, evs(shut(0, 1)), 2, api.OK)
	want := list(0, 1, 0, 5, 1, 10, 0, 3, 2, 11, 0, 2)
	told(t, b, 5, want)
	put(t, b, evs(shut(0, 0)), 3, api.ErrClose)
	put(t, b, evs(leaf(11, 0, 1)), 2, api.ErrOrder)
	put(t, b, evs(api.Event{Op: api.OpText}), 3, api.ErrArg)
	if b.Open() != 0 || b.Far() != 3 {
		t.Errorf("Open = %d, Far = %d", b.Open(), b.Far())
	}
	put(t, b, evs(open(10, 4), shut(0, 3)), 0, api.ErrOrder)
	if b.Far() != 3 {
		t.Errorf("Far = %d", b.Far())
	}
	untold(t, b, 2, api.ErrOrder)
	want[0].To = 3
	told(t, b, 3, want)
}

// P7.1: a new builder of each kind has the root alone, which begins at 0.
func TestNew(t *testing.T) {
	for kind := range 256 {
		b, m := build.New(uint8(kind)), &model{kind: uint8(kind)}
		hold(t, b, m)
		told(t, b, 0, []api.Node{{Kind: uint8(kind)}})
		told(t, b, last, []api.Node{{Kind: uint8(kind), To: last}})
		both(t, b, m, evs(open(uint8(kind), 1), leaf(uint8(kind), 1, 2), shut(0, 3), open(7, 3)), 4)
		hold(t, b, m)
	}
}

// P7.1 to P7.3: a builder that is nil, at each of its calls, whatever they are handed.
func TestNil(t *testing.T) {
	var b *build.Builder
	for _, at := range append([]int{0, 1, last}, far...) {
		for _, l := range [][]api.Event{nil, {}, {open(10, 0)}, {shut(0, 0)}, {leaf(10, 0, 1)}, {{}}, {leaf(10, at, at)}} {
			put(t, b, l, at, api.ErrNil)
		}
		untold(t, b, at, api.ErrNil)
	}
	if b.Open() != 0 || b.Far() != 0 {
		t.Errorf("Open = %d, Far = %d", b.Open(), b.Far())
	}
}

// P7.1: at of every sort, with no events, and with such as may be put there and such as may not: what at may not be comes ahead of them.
func TestAt(t *testing.T) {
	lists := [][]api.Event{nil, {}, {open(10, 0)}, {leaf(10, 0, 0)}, {leaf(10, 0, 1)}, {shut(0, 0)}, {open(10, -1)}, {{}}, {{Op: api.OpText}}, {open(10, 0), shut(0, 0)}, {open(10, 1), shut(0, 0)}}
	for _, l := range lists {
		for _, place := range []int{0, 1, 2, last / 2, last - 1, last} {
			b, m := build.New(api.KindText), &model{kind: api.KindText}
			both(t, b, m, l, place)
			hold(t, b, m)
		}
		for _, place := range far {
			b, m := at(t, 3, 1)
			put(t, b, l, place, api.ErrArg)
			hold(t, b, m)
		}
	}
	for _, l := range [][]api.Event{nil, {}} {
		for _, place := range []int{0, last} {
			b, m := at(t, 3, 1)
			put(t, b, l, place, api.OK)
			hold(t, b, m)
		}
	}
	// Where the builder came to has no part in what at may be.
	b, m := at(t, 3, 0)
	both(t, b, m, evs(open(10, 3)), 0)
	both(t, b, m, evs(shut(0, 0)), 3)
	both(t, b, m, evs(leaf(11, -96, -95)), 100)
	hold(t, b, m)
	told(t, b, 9, list(0, 1, 0, 9, 1, 9, 0, 3, 1, 10, 3, 3, 1, 11, 4, 5))
}

// P7.1: each Op: three that do something, all others are refused, wherever they stand and whatever else is wrong.
func TestOps(t *testing.T) {
	for op := range 256 {
		want := api.ErrArg
		if op == int(api.OpOpen) || op == int(api.OpClose) || op == int(api.OpLeaf) {
			want = api.OK
		}
		b, m := at(t, 3, 2)
		if err := both(t, b, m, evs(api.Event{Op: uint8(op), Kind: 12, At: 3, To: 3}), 0); err != want {
			t.Errorf("Op %d: %d", op, err)
		}
		hold(t, b, m)
		if want == api.OK {
			continue
		}
		for _, place := range append([]int{0, 2, 3, 4, last}, far...) {
			b, m := at(t, 3, 0)
			put(t, b, evs(api.Event{Op: uint8(op), At: place, To: -place}), 0, api.ErrArg)
			put(t, b, evs(open(10, 3), api.Event{Op: uint8(op), Kind: 1, At: place, To: place}, shut(0, 3)), 0, api.ErrArg)
			put(t, b, evs(open(10, 0), api.Event{Op: uint8(op), At: place}), 3, api.ErrArg)
			hold(t, b, m)
		}
	}
}

// places are such as lie about those at which it changes whether an event may be put by a builder that came to come, its places counted from at, and such as are far out.
func places(come, at int) []int {
	l := []int{come - at - 1, come - at, come - at + 1, -1, 0, 1, last - at - 1, last - at, last - at + 1, -at - 1, -at}
	for _, x := range far {
		// Sums of these with at, and with how far it came, leave an int.
		l = append(l, x, x-at, x-come)
	}
	return l
}

// P7.1: places of events, at counted in: at how far the builder came, ahead of it, at MaxText and behind it, and so far out that sums leave an int.
func TestPlaces(t *testing.T) {
	for _, come := range []int{0, 1, 3, last - 1, last} {
		for _, from := range []int{0, 1, 3, 5, last - 1, last} {
			for _, place := range places(come, from) {
				for _, e := range []api.Event{open(10, place), shut(0, place), leaf(10, place, place), leaf(10, place, place+1)} {
					b, m := at(t, come, 1)
					both(t, b, m, evs(e), from)
					if b.Open() != m.open(len(m.did)) || b.Far() != m.far() {
						t.Fatalf("behind Put(%v, %d) of a builder that came to %d: Open = %d, Far = %d", e, from, come, b.Open(), b.Far())
					}
				}
			}
		}
	}
}

// P7.1: the edges of places once more, with what is answered written out.
func TestPlacesWrittenOut(t *testing.T) {
	for _, x := range []struct {
		come, at, place int
		want            api.Errno
	}{
		{3, 0, 3, api.OK}, {3, 0, 2, api.ErrOrder}, {3, 0, 4, api.OK}, {3, 5, -2, api.OK}, {3, 5, -3, api.ErrOrder}, {3, 3, 0, api.OK}, {3, 2, 0, api.ErrOrder}, {0, 0, 0, api.OK}, {0, 0, -1, api.ErrOrder}, {0, 1, -1, api.OK}, {0, 1, -2, api.ErrOrder},
		{0, 0, last, api.OK}, {0, 0, last + 1, api.ErrOrder}, {0, 1, last - 1, api.OK}, {0, 1, last, api.ErrOrder}, {0, last, 0, api.OK}, {0, last, 1, api.ErrOrder}, {0, last, -last, api.OK}, {0, last, -last - 1, api.ErrOrder}, {last, last, 0, api.OK}, {last, last, -1, api.ErrOrder}, {last, 0, last, api.OK}, {last, 0, last - 1, api.ErrOrder},
		{0, last, math.MaxInt, api.ErrOrder}, {0, 1, math.MaxInt, api.ErrOrder}, {0, 0, math.MaxInt, api.ErrOrder}, {0, 0, math.MinInt, api.ErrOrder}, {last, last, math.MinInt, api.ErrOrder}, {last, 0, math.MinInt, api.ErrOrder}, {0, last, math.MinInt, api.ErrOrder}, {3, last, math.MaxInt - last + 1, api.ErrOrder},
	} {
		for _, e := range []api.Event{open(10, x.place), shut(0, x.place), leaf(10, x.place, x.place)} {
			b, _ := at(t, x.come, 1)
			put(t, b, evs(e), x.at, x.want)
			if come := b.Far(); x.want == api.OK && come != x.at+x.place || x.want != api.OK && come != x.come {
				t.Errorf("Far = %d behind Put(%v, %d)", come, e, x.at)
			}
		}
	}
}

// P7.1: a leaf's To: equal to its At, below it, at MaxText and behind it, and far out; how far the builder came is To then.
func TestLeaves(t *testing.T) {
	for _, x := range []struct {
		at, from, to int
		want         api.Errno
	}{
		{0, 3, 3, api.OK}, {0, 3, 4, api.OK}, {0, 3, 2, api.ErrOrder}, {0, 5, 5, api.OK}, {0, 5, 4, api.ErrOrder}, {0, 5, 3, api.ErrOrder}, {0, 5, 2, api.ErrOrder}, {0, 5, 0, api.ErrOrder}, {0, 5, -1, api.ErrOrder}, {0, 2, 3, api.ErrOrder}, {0, 2, 9, api.ErrOrder},
		{2, 1, 1, api.OK}, {2, 1, 0, api.ErrOrder}, {2, 0, 1, api.ErrOrder}, {7, -4, -4, api.OK}, {7, -4, -3, api.OK}, {7, -4, 0, api.OK}, {7, -4, -5, api.ErrOrder}, {7, -5, -4, api.ErrOrder},
		{0, 3, last, api.OK}, {0, 3, last + 1, api.ErrOrder}, {0, last, last, api.OK}, {0, last, last + 1, api.ErrOrder}, {0, last, last - 1, api.ErrOrder}, {0, last + 1, last + 1, api.ErrOrder}, {0, last + 1, last, api.ErrOrder}, {1, 3, last - 1, api.OK}, {1, 3, last, api.ErrOrder}, {last, 0, 0, api.OK}, {last, 0, 1, api.ErrOrder}, {last, 3 - last, 0, api.OK}, {last, 3 - last, 1, api.ErrOrder}, {last, 2 - last, 0, api.ErrOrder},
		{0, 3, math.MaxInt, api.ErrOrder}, {1, 3, math.MaxInt, api.ErrOrder}, {last, 0, math.MaxInt, api.ErrOrder}, {last, 0, math.MinInt, api.ErrOrder}, {0, 3, math.MinInt, api.ErrOrder}, {last, math.MinInt, 0, api.ErrOrder}, {last, math.MinInt, math.MaxInt, api.ErrOrder}, {last, math.MaxInt, math.MinInt, api.ErrOrder}, {last, math.MaxInt, math.MaxInt, api.ErrOrder}, {1, math.MinInt, math.MinInt, api.ErrOrder},
	} {
		b, m := at(t, 3, 1)
		e := leaf(12, x.from, x.to)
		put(t, b, evs(e), x.at, x.want)
		if m.put(evs(e), x.at) != x.want {
			t.Fatalf("%v at %d is tested wrongly", e, x.at)
		}
		hold(t, b, m)
	}
	for _, from := range places(3, 5) {
		for _, to := range places(3, 5) {
			b, m := at(t, 3, 0)
			both(t, b, m, evs(leaf(12, from, to)), 5)
			if b.Far() != m.far() {
				t.Fatalf("Far = %d behind a leaf from %d to %d", b.Far(), from, to)
			}
		}
	}
}

// P7.1: a close of each kind, and of the Kind 0, which leaves the kind that the node began with; the one that was opened last, and is open, ends; nothing that is closed is closed again.
func TestCloses(t *testing.T) {
	for kind := range 256 {
		b, m := build.New(api.KindText), &model{kind: api.KindText}
		both(t, b, m, evs(open(20, 0), open(21, 1), leaf(22, 1, 2), shut(uint8(kind), 3), leaf(23, 3, 3), shut(uint8(kind), 4)), 0)
		hold(t, b, m)
		outer, inner := 20, 21
		if kind != 0 {
			outer, inner = kind, kind
		}
		told(t, b, 9, list(0, 1, 0, 9, 1, outer, 0, 4, 2, inner, 1, 3, 3, 22, 1, 2, 2, 23, 3, 3))
		put(t, b, evs(shut(uint8(kind), 4)), 0, api.ErrClose)
		put(t, b, evs(leaf(24, 5, 6), shut(uint8(kind), 6)), 0, api.ErrClose)
		put(t, b, evs(open(24, 5), shut(0, 6), shut(uint8(kind), 6)), 0, api.ErrClose)
		hold(t, b, m)
	}
	b, m := build.New(0), &model{}
	both(t, b, m, evs(open(0, 0), shut(0, 0), open(0, 0), shut(3, 0), open(4, 0), shut(0, 0)), 0)
	hold(t, b, m)
	told(t, b, 0, list(0, 0, 0, 0, 1, 0, 0, 0, 1, 3, 0, 0, 1, 4, 0, 0))
	put(t, b, evs(shut(0, 0)), 0, api.ErrClose)
	put(t, build.New(0), evs(shut(0, 0)), last, api.ErrClose)
	// The root's kind stays.
	put(t, build.New(0), evs(shut(7, 0)), 0, api.ErrClose)
}

// P7.1: nodes and leaves without bytes, many at one place, beside one another and within.
func TestWithoutBytes(t *testing.T) {
	for _, place := range []int{0, 1, last} {
		b, m := build.New(api.KindText), &model{kind: api.KindText}
		both(t, b, m, evs(open(10, 0), shut(0, 0), open(11, 0), open(12, 0), leaf(13, 0, 0), leaf(14, 0, 0), shut(0, 0), open(15, 0), shut(16, 0), shut(0, 0), leaf(17, 0, 0), open(18, 0)), place)
		hold(t, b, m)
		told(t, b, last, list(0, 1, 0, last, 1, 10, place, place, 1, 11, place, place, 2, 12, place, place, 3, 13, place, place, 3, 14, place, place, 2, 16, place, place, 1, 17, place, place, 1, 18, place, last))
		// All alike: just those that are open end at n.
		b, m = build.New(api.KindText), &model{kind: api.KindText}
		both(t, b, m, evs(open(10, 0), shut(0, 0), leaf(10, 0, 0), open(10, 0), leaf(10, 0, 0), open(10, 0), shut(0, 0), open(10, 0)), place)
		hold(t, b, m)
		told(t, b, last, list(0, 1, 0, last, 1, 10, place, place, 1, 10, place, place, 1, 10, place, last, 2, 10, place, place, 2, 10, place, place, 2, 10, place, last))
	}
}

// P7.1: fields that play no part for an event's Op may be anything: To of an open and of a close.
func TestFieldsThatPlayNoPart(t *testing.T) {
	want := list(0, 1, 0, 9, 1, 10, 2, 5, 2, 11, 3, 9)
	want[2].To = 5
	for _, from := range []int{0, 1, 2} {
		for _, to := range append([]int{0, 1, 2, 3, 4, last}, far...) {
			b := build.New(api.KindText)
			first, second, third := open(10, 2-from), open(11, 3-from), shut(0, 5-from)
			first.To, second.To, third.To = to, -to, to-from
			put(t, b, evs(first, second, third, third), from, api.OK)
			told(t, b, 9, want)
			if b.Far() != 5 || b.Open() != 0 {
				t.Errorf("Far = %d, Open = %d, with a To of %d", b.Far(), b.Open(), to)
			}
			// An open's To does not let the next event stand ahead.
			put(t, b, evs(api.Event{Op: api.OpOpen, At: 6, To: to}, open(0, 5)), 0, api.ErrOrder)
			put(t, b, evs(api.Event{Op: api.OpClose, Kind: 7, At: 5, To: to}), 0, api.ErrClose)
		}
	}
}

// refusals are events that a builder which came to 3, and has one node open, refuses behind any that it takes up to 9, with their errors.
func refusals() map[api.Event]api.Errno {
	return map[api.Event]api.Errno{
		{}:                               api.ErrArg,
		{Op: api.OpText, At: 9, To: 9}:   api.ErrArg,
		{Op: 255, At: -1}:                api.ErrArg,
		open(10, 2):                      api.ErrOrder,
		shut(10, 2):                      api.ErrOrder,
		leaf(10, 2, 9):                   api.ErrOrder,
		leaf(10, 9, 8):                   api.ErrOrder,
		open(10, last+1):                 api.ErrOrder,
		shut(0, math.MinInt):             api.ErrOrder,
		leaf(10, math.MaxInt, 0):         api.ErrOrder,
		leaf(10, last, math.MaxInt):      api.ErrOrder,
		leaf(10, 9, last+1):              api.ErrOrder,
		{Op: api.OpClose, At: last + 1}:  api.ErrOrder,
		{Op: api.OpOpen, At: -1, To: -1}: api.ErrOrder,
	}
}

// P7.1: of a list in which one event is refused nothing is put, wherever that stands: Open, Far and Done answer as before, and all goes on as if it had not been.
func TestNothingOfWhatIsRefused(t *testing.T) {
	good := evs(open(10, 3), leaf(11, 3, 4), shut(12, 5), shut(13, 6), open(14, 7), leaf(15, 8, 9))
	for bad, want := range refusals() {
		for i := range len(good) + 1 {
			b, m := at(t, 3, 1)
			put(t, b, slices.Insert(slices.Clone(good), i, bad), 0, want)
			hold(t, b, m)
			both(t, b, m, good, 0)
			hold(t, b, m)
		}
	}
	// Nodes that were open ahead of the list are open still, with their kinds, though events of it would have closed them.
	for _, closes := range []int{1, 2, 3} {
		b, m := at(t, 3, 3)
		var l []api.Event
		for range closes {
			l = append(l, shut(77, 4))
		}
		put(t, b, append(slices.Clone(l), open(78, 4), leaf(79, 4, 5), shut(0, 4)), 0, api.ErrOrder)
		hold(t, b, m)
		put(t, b, append(slices.Clone(l), shut(77, 4), shut(77, 4), shut(77, 4)), 0, api.ErrClose)
		hold(t, b, m)
		both(t, b, m, l, 0)
		hold(t, b, m)
	}
}

// P7.1: which error comes first, where one event has several, and where several events have one each: that of the first event then.
func TestErrorsInOrder(t *testing.T) {
	for _, x := range []struct {
		l    []api.Event
		at   int
		want api.Errno
	}{
		{evs(shut(0, 2)), 0, api.ErrOrder}, {evs(shut(0, last+1)), 0, api.ErrOrder}, {evs(shut(0, math.MinInt)), last, api.ErrOrder}, {evs(shut(0, 3)), 0, api.ErrClose},
		{evs(api.Event{Op: 4, At: 2}), 0, api.ErrArg}, {evs(api.Event{At: -1, To: -2}), 0, api.ErrArg}, {evs(api.Event{Op: 9, At: math.MinInt}), 0, api.ErrArg},
		{evs(shut(0, 3), open(10, 2)), 0, api.ErrClose}, {evs(shut(0, 3), api.Event{}), 0, api.ErrClose}, {evs(open(10, 2), api.Event{}), 0, api.ErrOrder}, {evs(open(10, 2), shut(0, 3), shut(0, 3)), 0, api.ErrOrder}, {evs(api.Event{}, open(10, 2)), 0, api.ErrArg}, {evs(api.Event{}, shut(0, 3)), 0, api.ErrArg}, {evs(leaf(10, 3, 2), api.Event{Op: 4}), 0, api.ErrOrder},
		{evs(open(10, 3), shut(0, 3), shut(0, 3), api.Event{}), 0, api.ErrClose}, {evs(open(10, 5), shut(0, 4), shut(0, 5), api.Event{}), 0, api.ErrOrder}, {evs(open(10, 3), api.Event{Op: 4}, open(10, 2)), 0, api.ErrArg},
		{evs(api.Event{}), -1, api.ErrArg}, {evs(open(10, 2)), -1, api.ErrArg}, {evs(shut(0, 3)), -1, api.ErrArg}, {evs(shut(0, 3)), last + 1, api.ErrArg}, {evs(open(10, 4-last)), last + 1, api.ErrArg}, {evs(shut(0, 3)), math.MaxInt, api.ErrArg}, {evs(shut(0, 3)), math.MinInt, api.ErrArg},
	} {
		b, m := at(t, 3, 0)
		put(t, b, x.l, x.at, x.want)
		if m.put(x.l, x.at) != x.want {
			t.Fatalf("Put(%v, %d) is tested wrongly", x.l, x.at)
		}
		hold(t, b, m)
	}
}

// P7.2: Done of each n that may be, and of such as may not, with nodes open and with none.
func TestDone(t *testing.T) {
	for _, come := range []int{0, 1, 3, last - 1, last} {
		for _, nodes := range []int{0, 1, 3} {
			b, m := at(t, come, nodes)
			hold(t, b, m)
			for _, n := range []int{come, (come + last) / 2, last} {
				want := list(0, 1, 0, n, 1, 9, 0, come)
				for i := range nodes {
					want = append(want, api.Node{Kind: 10, From: come, To: n, Depth: i + 1})
				}
				told(t, b, n, want)
			}
			for _, n := range append([]int{come - 1, last + 1}, far...) {
				untold(t, b, n, api.ErrOrder)
			}
		}
	}
}

// P7.2: the builder stays as it is when it is asked, with nodes open: asked again, for another n, with more put between and behind, it answers as one that was not asked.
func TestDoneTakesNothing(t *testing.T) {
	b, m := build.New(api.KindText), &model{kind: api.KindText}
	pieces := [][]api.Event{{open(10, 0)}, {open(11, 1), leaf(12, 1, 2)}, {}, {open(13, 4)}, {shut(0, 5)}, {leaf(14, 5, 5), shut(15, 6)}, {open(16, 6)}, {shut(17, 9), shut(0, 9), leaf(18, 10, 11)}, {open(19, 11)}}
	for i, l := range pieces {
		if err := both(t, b, m, l, 0); err != api.OK {
			t.Fatalf("piece %d: %d", i, err)
		}
		for _, n := range []int{last, m.far(), 20, 20, last} {
			told(t, b, n, m.done(n))
		}
		untold(t, b, m.far()-1, api.ErrOrder)
		put(t, b, evs(open(99, 0), shut(98, -1)), last, api.ErrOrder)
		hold(t, b, m)
	}
	told(t, b, 20, list(0, 1, 0, 20, 1, 10, 0, 9, 2, 15, 1, 6, 3, 12, 1, 2, 3, 13, 4, 5, 3, 14, 5, 5, 2, 17, 6, 9, 1, 18, 10, 11, 1, 19, 11, 20))
}

// P7.1 to P7.4: all lists of at most three short events, put at one time and one by one, with a node open ahead of them and with none.
func TestShortLists(t *testing.T) {
	var all []api.Event
	for _, op := range []uint8{api.OpOpen, api.OpClose, api.OpLeaf} {
		for at := -1; at < 3; at++ {
			for to := -1; to < 3; to++ {
				if op == api.OpLeaf || to == 0 {
					all = append(all, api.Event{Op: op, Kind: uint8(20*(at&1)) + op, At: at, To: to})
				}
			}
		}
	}
	all = append(all, api.Event{Op: api.OpText})
	try := func(l ...api.Event) {
		for nodes := range 2 {
			b, m := at(t, 0, nodes)
			both(t, b, m, l, 1)
			if got, err := b.Done(9); !slices.Equal(got, m.done(9)) || err != api.OK || b.Open() != m.open(len(m.did)) || b.Far() != m.far() {
				t.Fatalf("behind %v: Done(9) = %v, %d, Open = %d, Far = %d", m.did, got, err, b.Open(), b.Far())
			}
			b, m = at(t, 0, nodes)
			for i := range l {
				both(t, b, m, l[i:i+1], 1)
			}
			told(t, b, 9, m.done(9))
		}
	}
	for _, x := range all {
		try(x)
		for _, y := range all {
			try(x, y)
			for _, z := range all {
				try(x, y, z)
			}
		}
	}
}

// row is a list of events that a builder takes from nothing on, most of them not far from those ahead.
func row(seed *uint64, n int) []api.Event {
	var l []api.Event
	at, level := 0, 0
	for range n {
		at += turn(seed, 4)
		e := api.Event{Op: uint8(1 + turn(seed, 3)), Kind: uint8(turn(seed, 5)), At: at, To: turn(seed, 99)}
		switch {
		case e.Op == api.OpOpen:
			level++
		case e.Op == api.OpClose && level > 0:
			level--
		default:
			e.Op = api.OpLeaf
			at += turn(seed, 3)
			e.To = at
		}
		l = append(l, e)
	}
	return l
}

// moved are events whose places are by less.
func moved(l []api.Event, by int) []api.Event {
	now := slices.Clone(l)
	for i := range now {
		now[i].At -= by
		now[i].To -= by
	}
	return now
}

// P7.4: one list of events, put at one time and in pieces whose places count from elsewhere, of roots of several kinds.
func TestPieces(t *testing.T) {
	seed := uint64(5)
	for i := range 300 {
		kind := uint8(i % 3)
		l := row(&seed, 1+turn(&seed, 40))
		whole, parts, m := build.New(kind), build.New(kind), &model{kind: kind}
		if err := both(t, whole, m, l, 0); err != api.OK {
			t.Fatalf("Put(%v) = %d", l, err)
		}
		for rest := l; len(rest) > 0; {
			n, by := turn(&seed, len(rest)+1), turn(&seed, 200)
			put(t, parts, moved(rest[:n], by), by, api.OK)
			rest = rest[n:]
		}
		hold(t, whole, m)
		hold(t, parts, m)
	}
}

// P7.1 to P7.4: rows of events in which some are refused, put in pieces, each builder held against the words behind each piece.
func TestManyRows(t *testing.T) {
	seed := uint64(17)
	refused, taken := 0, 0
	for range 400 {
		b, m := build.New(api.KindText), &model{kind: api.KindText}
		for range 12 {
			from := max(0, m.far()-2+turn(&seed, 5))
			l := row(&seed, turn(&seed, 6))
			for i := range l {
				switch turn(&seed, 12) {
				case 0:
					l[i].At -= turn(&seed, 5)
				case 1:
					l[i].To -= turn(&seed, 5)
				case 2:
					l[i].Op = uint8(turn(&seed, 5))
				case 3:
					l[i].At = far[turn(&seed, len(far))]
				}
			}
			if both(t, b, m, l, from) == api.OK {
				taken++
			} else {
				refused++
			}
			hold(t, b, m)
		}
	}
	if refused < 500 || taken < 500 {
		t.Errorf("%d rows were refused, %d taken", refused, taken)
	}
}

// events are those of which a tree comes: of each node but the root an open and, behind those within it, a close, or a leaf; closed tells of which nodes without others within it is the former.
func events(l []api.Node, closed func(i int) bool) []api.Event {
	var told []api.Event
	var open []api.Node
	closing := func(depth int) {
		for len(open) > 0 && open[len(open)-1].Depth >= depth {
			told = append(told, shut(0, open[len(open)-1].To))
			open = open[:len(open)-1]
		}
	}
	for i := 1; i < len(l); i++ {
		x := l[i]
		closing(x.Depth)
		if inner := i+1 < len(l) && l[i+1].Depth > x.Depth; !inner && !closed(i) {
			told = append(told, leaf(x.Kind, x.From, x.To))
			continue
		}
		told = append(told, api.Event{Op: api.OpOpen, Kind: x.Kind, At: x.From})
		open = append(open, x)
	}
	closing(1)
	return told
}

// again builds a tree of its own events, with leaves, with nodes that are opened and closed, and with both, and one event at a time.
func again(t *testing.T, l []api.Node) {
	t.Helper()
	ways := []func(int) bool{func(int) bool { return false }, func(int) bool { return true }, func(i int) bool { return i%2 == 0 }}
	for _, closed := range ways {
		whole, parts := build.New(l[0].Kind), build.New(l[0].Kind)
		told := events(l, closed)
		put(t, whole, told, 0, api.OK)
		for _, e := range told {
			put(t, parts, moved(evs(e), e.At), e.At, api.OK)
		}
		for _, b := range []*build.Builder{whole, parts} {
			if got, err := b.Done(l[0].To); !slices.Equal(got, l) || err != api.OK || b.Open() != 0 {
				t.Fatalf("built again, %v is %v, %d", l, got, err)
			}
		}
	}
}

// grow puts nodes that a tree may have behind l, within a node from from to to of a depth.
func grow(seed *uint64, l []api.Node, depth, from, to, budget int) []api.Node {
	for range turn(seed, budget+1) {
		a := from + turn(seed, to-from+1)
		b := a + turn(seed, to-a+1)
		l = append(l, api.Node{Kind: uint8(turn(seed, 256)), Depth: depth, From: a, To: b})
		if budget > 1 {
			l = grow(seed, l, depth+1, a, b, budget-1)
		}
		from = b
	}
	return l
}

// P7.4: trees come of their own events, whatever the root's kind.
func TestTreesAgain(t *testing.T) {
	seed := uint64(29)
	for range 2000 {
		n := turn(&seed, 60)
		l := grow(&seed, []api.Node{{Kind: api.KindText, To: n}}, 1, 0, n, 1+turn(&seed, 4))
		if err := tree.Check(l, n); err != api.OK {
			t.Fatalf("%v is no tree", l)
		}
		again(t, l)
		l[0].Kind = uint8(turn(&seed, 256))
		again(t, l)
	}
}

// P7.4: so do all trees of a root and at most three short nodes.
func TestShortTreesAgain(t *testing.T) {
	var nodes []api.Node
	for depth := 1; depth < 4; depth++ {
		for from := range 3 {
			for to := from; to < 3; to++ {
				nodes = append(nodes, api.Node{Kind: uint8(10 * from), Depth: depth, From: from, To: to})
			}
		}
	}
	trees := 0
	try := func(l ...api.Node) {
		if tree.Check(l, 2) == api.OK {
			trees++
			again(t, l)
		}
	}
	root := api.Node{Kind: api.KindText, To: 2}
	try(root)
	for _, x := range nodes {
		try(root, x)
		for _, y := range nodes {
			try(root, x, y)
			for _, z := range nodes {
				try(root, x, y, z)
			}
		}
	}
	if trees < 100 {
		t.Errorf("just %d trees among them", trees)
	}
}

// P7.1 to P7.4: nests as deep as levels go, and wide rows of nodes and of leaves.
func TestGreatTrees(t *testing.T) {
	const levels = 1 << 16
	deep := make([]api.Node, levels+1)
	for i := range deep {
		deep[i] = api.Node{Kind: uint8(i), Depth: i, From: i, To: 2*levels - i}
	}
	deep[0] = api.Node{Kind: api.KindText, To: 2 * levels}
	wide := make([]api.Node, last+1)
	for i := range wide {
		wide[i] = api.Node{Kind: 10, Depth: 1, From: i - 1, To: i}
	}
	wide[0] = api.Node{Kind: api.KindText, To: last}
	for name, l := range map[string][]api.Node{"deep": deep, "wide": wide} {
		b := build.New(api.KindText)
		for _, e := range events(l, func(int) bool { return false }) {
			if err := b.Put(evs(e), 0); err != api.OK {
				t.Fatalf("%s: Put(%v) = %d", name, e, err)
			}
		}
		if got, err := b.Done(l[0].To); !slices.Equal(got, l) || err != api.OK {
			t.Errorf("%s: another tree, %d", name, err)
		}
	}
	b := build.New(api.KindText)
	told := events(deep, func(int) bool { return true })
	put(t, b, told[:levels], 0, api.OK)
	if b.Open() != levels || b.Far() != levels {
		t.Errorf("Open = %d, Far = %d", b.Open(), b.Far())
	}
	open, err := b.Done(last)
	if len(open) != levels+1 || open[levels] != (api.Node{Kind: deep[levels].Kind, Depth: levels, From: levels, To: last}) || tree.Check(open, last) != api.OK || err != api.OK {
		t.Errorf("a deep nest that is open: %d nodes, %d", len(open), err)
	}
	if err := b.Put(append(told[levels:], shut(0, 2*levels)), 0); err != api.ErrClose {
		t.Errorf("one close too many: %d", err)
	}
	if b.Open() != levels || b.Far() != levels {
		t.Errorf("Open = %d, Far = %d, behind a close too many", b.Open(), b.Far())
	}
	put(t, b, told[levels:], 0, api.OK)
	if got, err := b.Done(2 * levels); !slices.Equal(got, deep) || err != api.OK {
		t.Errorf("a deep nest: another tree, %d", err)
	}
}

// handed is a list with room behind its end, which is not to be touched either.
func handed(l []api.Event) []api.Event {
	room := append(slices.Clone(l), api.Event{Op: 7, Kind: 7, At: 7, To: 7}, open(8, 8))
	return room[:len(l):len(room)]
}

// P7.1: lists that are handed in stay as they were, with the room behind their ends, taken or refused; what is written to them behind shows nowhere.
func TestNothingIsKeptOfWhatIsPut(t *testing.T) {
	for _, l := range [][]api.Event{{}, {open(10, 0), leaf(11, 1, 2), shut(12, 3), open(13, 3)}, {open(10, 0), open(11, 0)}, {open(10, 0), shut(0, 1), shut(0, 1)}, {leaf(10, 0, 9), leaf(11, 5, 9)}, {{Op: 4}}} {
		for _, at := range []int{0, 5, -1} {
			b, m := build.New(api.KindText), &model{kind: api.KindText}
			in := handed(l)
			both(t, b, m, in, at)
			if room := handed(l); !slices.Equal(in[:cap(in)], room[:cap(room)]) {
				t.Fatalf("%v was changed to %v", room[:cap(room)], in[:cap(in)])
			}
			in = in[:cap(in)]
			for i := range in {
				in[i] = api.Event{Op: api.OpClose, Kind: 99, At: 99, To: 99}
			}
			hold(t, b, m)
		}
	}
}

// spoil writes all over a list, and over the room behind its end.
func spoil(l []api.Node) {
	l = l[:cap(l)]
	for i := range l {
		l[i] = api.Node{Kind: 99, From: -9, To: -9, Depth: -9}
	}
}

// P7.2: what is written to an answer shows neither in the builder nor in another answer, and what is put later not in an answer that was told.
func TestAnswersAreApart(t *testing.T) {
	b, m := build.New(api.KindText), &model{kind: api.KindText}
	for _, l := range [][]api.Event{{}, {open(10, 0), leaf(11, 1, 2)}, {open(12, 3)}, {shut(13, 4), leaf(14, 4, 5)}, {shut(15, 6)}} {
		both(t, b, m, l, 0)
		want := m.done(9)
		first, _ := b.Done(9)
		second, _ := b.Done(9)
		spoil(first)
		if !slices.Equal(second, want) {
			t.Fatalf("an answer shows what was written to another one: %v", second)
		}
		hold(t, b, m)
		// More is put to a builder that is alike, behind its answer.
		other, done := build.New(api.KindText), &model{kind: api.KindText}
		for _, e := range m.did {
			both(t, other, done, evs(e), 0)
		}
		early, _ := other.Done(9)
		more := evs(leaf(30, 7, 7), open(31, 8))
		for range other.Open() {
			more = append(more, shut(32, 8), shut(33, 9))
		}
		other.Put(more, 0)
		spoil(early[len(early):])
		if !slices.Equal(early, want) {
			t.Fatalf("an answer shows what was put later: %v", early)
		}
	}
}

// P7.1 to P7.3: two builders have nothing to do with one another, put to in turns.
func TestBuildersAreApart(t *testing.T) {
	seed := uint64(41)
	var all []*build.Builder
	var models []*model
	for kind := range 4 {
		all = append(all, build.New(uint8(kind)))
		models = append(models, &model{kind: uint8(kind)})
	}
	for range 300 {
		i := turn(&seed, len(all))
		both(t, all[i], models[i], row(&seed, turn(&seed, 4)), models[i].far())
		for k := range all {
			if got, err := all[k].Done(last); !slices.Equal(got, models[k].done(last)) || err != api.OK || all[k].Open() != models[k].open(len(models[k].did)) || all[k].Far() != models[k].far() {
				t.Fatalf("builder %d shows what was put to builder %d", k, i)
			}
		}
	}
}
