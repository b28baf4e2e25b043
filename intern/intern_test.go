package intern_test

import (
	"math"
	"reflect"
	"slices"
	"strconv"
	"strings"
	"testing"
	"unsafe"

	"indenture/api"
	"indenture/intern"
)

// out are numbers that are no state's in any table, as far out as an int goes.
var out = []int{math.MinInt, math.MinInt + 1, -1 << 62, -1 << 32, -256, -2, -1, 1 << 32, 1<<32 + 1, 1 << 62, math.MaxInt - 1, math.MaxInt}

// turn goes on to the next number of a row that looks unordered, and answers one from 0 to n - 1.
func turn(seed *uint64, n int) int {
	*seed = *seed*6364136223846793005 + 1442695040888963407
	return int(*seed >> 33 % uint64(n))
}

// full is a state of which no field is zero.
func full() api.State {
	s := api.State{Depth: api.MaxStack, Mode: 1, Mark: 2, Flags: 3, Count: 4, Wait: api.MaxDocs}
	for i := range s.Stack {
		s.Stack[i] = api.Frame{Kind: 5, Mark: 6, Flags: 7, Col: 8}
	}
	for i := range s.Docs {
		s.Docs[i] = api.Doc{Word: "E", Strip: true, Raw: true}
	}
	return s
}

// counted are the states whose Count is from 0 to n - 1.
func counted(n int) []api.State {
	l := make([]api.State, n)
	for i := range l {
		l[i].Count = i
	}
	return l
}

// worded is a state with these words, in order.
func worded(words ...string) api.State {
	var s api.State
	for i, word := range words {
		s.Docs[i].Word = word
	}
	return s
}

// turned are all states that are s but for one field, by the field's name.
func turned(s api.State) map[string]api.State {
	all := map[string]api.State{}
	now := s
	turnFields("", reflect.ValueOf(&now).Elem(), func(name string) {
		all[name] = now
	})
	return all
}

// turnFields makes each field of v another one, the others as they were, and calls behind each with its name.
func turnFields(name string, v reflect.Value, behind func(string)) {
	switch v.Kind() {
	case reflect.Struct:
		for i := range v.NumField() {
			turnFields(name+"."+v.Type().Field(i).Name, v.Field(i), behind)
		}
		return
	case reflect.Array:
		for i := range v.Len() {
			turnFields(name+"["+strconv.Itoa(i)+"]", v.Index(i), behind)
		}
		return
	}
	was := reflect.ValueOf(v.Interface())
	switch v.Kind() {
	case reflect.Uint8:
		v.SetUint(v.Uint() + 100)
	case reflect.Int:
		v.SetInt(v.Int() + 256)
	case reflect.Bool:
		v.SetBool(!v.Bool())
	case reflect.String:
		v.SetString(v.String() + "\x00")
	default:
		panic("a field of no such kind: " + name)
	}
	behind(name)
	v.Set(was)
}

// holdId holds one answer of Id.
func holdId(t *testing.T, table *intern.Table, s api.State, want int) {
	t.Helper()
	if id := table.Id(s); id != want {
		t.Fatalf("Id(%v) = %d, not %d", s, id, want)
	}
}

// holdFind holds one answer of Find; a number below 0 is none.
func holdFind(t *testing.T, table *intern.Table, s api.State, want int) {
	t.Helper()
	if id, has := table.Find(s); has != (want >= 0) || id != max(want, 0) {
		t.Fatalf("Find(%v) = %d, %v, not %d", s, id, has, want)
	}
}

// holdState holds one answer of State.
func holdState(t *testing.T, table *intern.Table, id int, want api.State, wantErr api.Errno) {
	t.Helper()
	if s, err := table.State(id); s != want || err != wantErr {
		t.Fatalf("State(%d) = %v, %d, not %v, %d", id, s, err, want, wantErr)
	}
}

// hold holds all that a table tells against the states that it has to have, in order; nothing of it changes the table.
func hold(t *testing.T, table *intern.Table, states []api.State) {
	t.Helper()
	for range 2 {
		if n := table.Len(); n != len(states) {
			t.Fatalf("Len = %d, not %d", n, len(states))
		}
		for i, s := range states {
			holdState(t, table, i, s, api.OK)
			holdFind(t, table, s, i)
			holdId(t, table, s, i)
			told, _ := table.State(i)
			holdId(t, table, told, i)
		}
		holdState(t, table, len(states), api.State{}, api.ErrRange)
		for _, id := range out {
			holdState(t, table, id, api.State{}, api.ErrRange)
		}
	}
}

// of is a table of these states, none of which is there twice.
func of(t *testing.T, states []api.State) *intern.Table {
	t.Helper()
	table := intern.New()
	for i, s := range states {
		holdId(t, table, s, i)
	}
	return table
}

// P10.1, P10.2: the chapter's examples.
func TestExamples(t *testing.T) {
	table := intern.New()
	holdId(t, table, api.State{}, 0)
	holdId(t, table, api.State{Mode: 1}, 1)
	holdId(t, table, api.State{}, 0)
	if n := table.Len(); n != 2 {
		t.Errorf("Len = %d", n)
	}
	holdFind(t, table, api.State{Mode: 2}, -1)
	holdState(t, table, 1, api.State{Mode: 1}, api.OK)
	holdState(t, table, 2, api.State{}, api.ErrRange)
}

// P10.1, P10.2: a table without states.
func TestNew(t *testing.T) {
	table := intern.New()
	hold(t, table, nil)
	holdState(t, table, 0, api.State{}, api.ErrRange)
	holdState(t, table, 1, api.State{}, api.ErrRange)
	for _, s := range []api.State{{}, {Mode: 1}, full(), worded("E")} {
		holdFind(t, table, s, -1)
	}
	hold(t, table, nil)
}

// P10.1, P10.2: a nil table has no states and takes none.
func TestNil(t *testing.T) {
	var table *intern.Table
	for range 2 {
		for _, s := range []api.State{{}, {Mode: 1}, full()} {
			holdId(t, table, s, 0)
			holdFind(t, table, s, -1)
		}
		if n := table.Len(); n != 0 {
			t.Errorf("Len of nil = %d", n)
		}
		for _, id := range append([]int{0, 1, 2}, out...) {
			holdState(t, table, id, api.State{}, api.ErrNil)
		}
	}
}

// P10.1: the zero state is one as any other, wherever it comes.
func TestZeroState(t *testing.T) {
	for at := range 4 {
		states := slices.Insert([]api.State{{Mode: 1}, {Wait: 1}, full()}, at, api.State{})
		table := intern.New()
		for i, s := range states {
			if i <= at {
				holdFind(t, table, api.State{}, -1)
			}
			holdId(t, table, s, i)
			hold(t, table, states[:i+1])
		}
		hold(t, table, states)
	}
}

// P10.1, P10.3: states that differ in one field have two numbers, whichever field it is, in use or not.
func TestFields(t *testing.T) {
	for _, s := range []api.State{{}, full(), {Depth: 1, Wait: 1}, {Depth: -1, Wait: math.MaxInt}} {
		others := turned(s)
		for _, name := range []string{
			".Depth", ".Mode", ".Mark", ".Flags", ".Count", ".Wait",
			".Stack[0].Kind", ".Stack[0].Mark", ".Stack[0].Flags", ".Stack[0].Col",
			".Stack[15].Kind", ".Stack[15].Mark", ".Stack[15].Flags", ".Stack[15].Col",
			".Docs[0].Word", ".Docs[0].Strip", ".Docs[0].Raw",
			".Docs[3].Word", ".Docs[3].Strip", ".Docs[3].Raw",
		} {
			if others[name] == s {
				t.Fatalf("no other state by %s", name)
			}
		}
		if want := 6 + 4*api.MaxStack + 3*api.MaxDocs; len(others) != want {
			t.Fatalf("%d fields, not %d", len(others), want)
		}
		states := []api.State{s}
		all := of(t, states)
		for _, other := range others {
			table := of(t, []api.State{s})
			holdFind(t, table, other, -1)
			holdId(t, table, other, 1)
			hold(t, table, []api.State{s, other})
			holdFind(t, all, other, -1)
			holdId(t, all, other, len(states))
			states = append(states, other)
		}
		hold(t, all, states)
	}
}

// P10.1, P10.3: what one field has, another one has in another state, and numbers that have some of their bytes alike.
func TestLikeStates(t *testing.T) {
	states := []api.State{{}, {Mode: 1}, {Mark: 1}, {Flags: 1}, {Depth: 1}, {Count: 1}, {Wait: 1}, {Mode: 255}, {Count: 255}, {Count: -1}}
	for _, n := range []int{1 << 8, 1<<8 + 1, 1 << 16, 1 << 31, 1 << 32, 1<<32 + 1, math.MinInt, math.MinInt + 1, math.MaxInt} {
		states = append(states, api.State{Depth: n}, api.State{Count: n}, api.State{Wait: n})
		s := api.State{Depth: 1}
		s.Stack[0].Col = n
		states = append(states, s)
	}
	for i := range api.MaxStack {
		for _, f := range []api.Frame{{Kind: 1}, {Mark: 1}, {Flags: 1}, {Col: 1}, {Kind: 1, Col: 1}} {
			s := api.State{Depth: 2}
			s.Stack[i] = f
			states = append(states, s)
		}
	}
	hold(t, of(t, states), states)
}

// P10.1, P10.3: words of any bytes, and of any length; the same bytes, parted in another way, are other words.
func TestWords(t *testing.T) {
	long := strings.Repeat("x", 5*api.MaxWord)
	states := []api.State{
		worded(""), worded("a"), worded("", "a"), worded("", "", "", "a"), worded("a", "a"),
		worded("ab", "c"), worded("a", "bc"), worded("abc"), worded("", "abc"), worded("b", "a"), worded("a", "b"),
		worded("a\x00"), worded("\x00a"), worded("\x00"), worded("\x00\x00"), worded("A"), worded("\xff"), worded("\xfe"), worded("\xc3"), worded("\xc3\xa9"), worded("e\xcc\x81"),
		worded(long), worded(long[1:]), worded(long + "y"), worded(long[1:] + "y"), worded("", "", "", long), worded(long, long, long, long),
	}
	hold(t, of(t, states), states)
}

// P10.1, P10.3: states are equal, if their words are, though these are other texts of the same bytes.
func TestWordsOfTheSameBytes(t *testing.T) {
	for _, words := range [][]string{{"E"}, {"", "", "", "EOF"}, {"a", "bc", "\xff\x00", strings.Repeat("x", api.MaxWord)}} {
		var again []string
		for _, word := range words {
			again = append(again, strings.Clone(word))
		}
		s, same := worded(words...), worded(again...)
		for _, ahead := range [][]api.State{nil, {{}}, {full(), {Wait: 1}}} {
			for _, behind := range [][]api.State{nil, {{Mode: 9}}, {{Mode: 9}, {Mark: 9}}} {
				table := of(t, slices.Concat(ahead, []api.State{s}, behind))
				holdFind(t, table, same, len(ahead))
				holdId(t, table, same, len(ahead))
				hold(t, table, slices.Concat(ahead, []api.State{same}, behind))
			}
		}
	}
}

// P10.1, P10.2: a state that is asked for again, at once or behind others, keeps its number, and makes Len no greater.
func TestAskedAgain(t *testing.T) {
	table := intern.New()
	for i, x := range []struct{ count, id, many int }{
		{7, 0, 1}, {7, 0, 1}, {7, 0, 1}, {8, 1, 2}, {7, 0, 2}, {8, 1, 2}, {8, 1, 2}, {0, 2, 3}, {7, 0, 3}, {7, 0, 3}, {0, 2, 3}, {8, 1, 3}, {9, 3, 4}, {9, 3, 4}, {0, 2, 4},
	} {
		holdId(t, table, api.State{Count: x.count}, x.id)
		if n := table.Len(); n != x.many {
			t.Fatalf("Len behind call %d = %d, not %d", i, n, x.many)
		}
	}
	hold(t, table, []api.State{{Count: 7}, {Count: 8}, {}, {Count: 9}})
}

// P10.1: Find tells what is there, and puts nothing in; the number beside false is 0.
func TestFind(t *testing.T) {
	states := []api.State{full(), {Mode: 1}, worded("E"), {Depth: 3}}
	for n := range len(states) + 1 {
		table := of(t, states[:n])
		for range 3 {
			for i, s := range states[:n] {
				holdFind(t, table, s, i)
			}
			for _, s := range states[n:] {
				holdFind(t, table, s, -1)
			}
			holdFind(t, table, api.State{}, -1)
			holdFind(t, table, api.State{Mode: 2}, -1)
		}
		hold(t, table, states[:n])
		holdId(t, table, api.State{Mode: 2}, n)
		holdFind(t, table, api.State{Mode: 2}, n)
		holdFind(t, table, api.State{}, -1)
		hold(t, table, append(states[:n:n], api.State{Mode: 2}))
	}
}

// P10.2: State tells from 0 to the last number, and ErrRange beyond, with the zero state.
func TestState(t *testing.T) {
	for n := range 20 {
		states := make([]api.State, n)
		for i := range states {
			states[i] = full()
			states[i].Count = -i
		}
		table := of(t, states)
		for id := range n {
			holdState(t, table, id, states[id], api.OK)
		}
		for k := range 300 {
			holdState(t, table, n+k, api.State{}, api.ErrRange)
			holdState(t, table, -1-k, api.State{}, api.ErrRange)
		}
		for _, id := range out {
			holdState(t, table, id, api.State{}, api.ErrRange)
		}
		if table.Len() != n {
			t.Fatalf("Len = %d, not %d", table.Len(), n)
		}
	}
}

// P10.1 to P10.3: thousands of states have each its number, told once and told again, in any order.
func TestManyStates(t *testing.T) {
	states := counted(5000)
	for i := range states {
		s := &states[i]
		s.Depth, s.Mode = i%17, uint8(i)
		s.Stack[i%16] = api.Frame{Kind: uint8(i / 3), Col: i / 7}
		s.Docs[i%4] = api.Doc{Word: "E" + strconv.Itoa(i/11), Strip: i%2 == 0, Raw: i%3 == 0}
	}
	table := intern.New()
	for i, s := range states {
		holdFind(t, table, s, -1)
		holdId(t, table, s, i)
		holdId(t, table, s, i)
		holdId(t, table, states[i/2], i/2)
	}
	hold(t, table, states)
	for i := range states {
		k := len(states) - 1 - i
		holdId(t, table, states[k], k)
	}
	seed := uint64(10)
	for range 20000 {
		k := turn(&seed, len(states))
		holdId(t, table, states[k], k)
		holdState(t, table, k, states[k], api.OK)
	}
	hold(t, table, states)
}

// P10.1 to P10.3: whatever is asked, a table is a list to which a state comes, if none of those in it is equal.
func TestAnyCalls(t *testing.T) {
	seed := uint64(31)
	for _, kinds := range []int{1, 2, 3, 10, 400} {
		table := intern.New()
		var states []api.State
		for range 2000 {
			s := api.State{Count: turn(&seed, kinds), Mode: uint8(turn(&seed, 2))}
			s.Stack[turn(&seed, api.MaxStack)].Col = turn(&seed, 2)
			s.Docs[turn(&seed, api.MaxDocs)].Word = strings.Repeat("E", turn(&seed, 3))
			id := slices.Index(states, s)
			holdFind(t, table, s, id)
			if turn(&seed, 2) == 0 {
				continue
			}
			if id < 0 {
				id = len(states)
				states = append(states, s)
			}
			holdId(t, table, s, id)
			holdState(t, table, id, s, api.OK)
			if n := table.Len(); n != len(states) {
				t.Fatalf("Len = %d, not %d", n, len(states))
			}
		}
		hold(t, table, states)
	}
}

// P10.1 to P10.3: two tables know nothing of one another.
func TestTablesAreApart(t *testing.T) {
	a, b := intern.New(), intern.New()
	up, down := counted(300), counted(300)
	slices.Reverse(down)
	for i := range up {
		holdFind(t, b, up[i], slices.Index(down[:i], up[i]))
		holdId(t, a, up[i], i)
		holdFind(t, a, down[i], slices.Index(up[:i+1], down[i]))
		holdId(t, b, down[i], i)
	}
	hold(t, a, up)
	hold(t, b, down)
	holdId(t, a, full(), 300)
	holdFind(t, b, full(), -1)
	hold(t, b, down)
	hold(t, intern.New(), nil)
	s, _ := a.State(300)
	holdId(t, b, worded("E"), 300)
	holdId(t, b, s, 301)
	hold(t, a, append(up, full()))
	hold(t, b, append(down, worded("E"), full()))
}

// spoil makes each field of s another one.
func spoil(s *api.State) {
	*s = api.State{Depth: -1, Mode: 99, Mark: 99, Flags: 99, Count: -1, Wait: -1}
	for i := range s.Stack {
		s.Stack[i] = api.Frame{Kind: 99, Mark: 99, Flags: 99, Col: -1}
	}
	for i := range s.Docs {
		s.Docs[i].Word = "spoilt"
	}
}

// P10.3: what the caller does to a state, behind Id, Find or State, changes nothing in the table.
func TestStatesAreApart(t *testing.T) {
	states := []api.State{{}, full(), worded("E"), {Mode: 1}}
	table := intern.New()
	for i, s := range states {
		holdId(t, table, s, i)
		spoil(&s)
		hold(t, table, states[:i+1])
	}
	var spoilt api.State
	spoil(&spoilt)
	for i, s := range states {
		holdFind(t, table, s, i)
		spoil(&s)
		s, _ = table.State(i)
		spoil(&s)
		holdFind(t, table, s, -1)
		holdFind(t, table, spoilt, -1)
		hold(t, table, states)
	}
	holdId(t, table, spoilt, len(states))
	hold(t, table, append(states, spoilt))
}

// inside tells whether part's bytes are some of whole's, the same memory.
func inside(part, whole string) bool {
	from := uintptr(unsafe.Pointer(unsafe.StringData(whole)))
	at := uintptr(unsafe.Pointer(unsafe.StringData(part)))
	return part != "" && at >= from && at < from+uintptr(len(whole))
}

// P10.1, P10.2: a text of which a word is a piece is not kept, and a word that is told is new memory.
func TestNothingIsShared(t *testing.T) {
	text := strings.Repeat("abc ", 1000)
	s := worded(text[:3], text[4:9], text[8:8], text[40:104])
	table := of(t, []api.State{s})
	first, _ := table.State(0)
	again, _ := table.State(0)
	if first != s || again != s {
		t.Fatalf("State(0) = %v, %v, not %v", first, again, s)
	}
	for i := range first.Docs {
		if inside(first.Docs[i].Word, text) || inside(again.Docs[i].Word, text) || inside(first.Docs[i].Word, again.Docs[i].Word) {
			t.Errorf("word %d shares bytes", i)
		}
	}
}
