package mdblock_test

import (
	"math"
	"reflect"
	"strconv"
	"testing"

	"indenture/api"
	"indenture/mdblock"
)

// isOwn tells whether s counts as itself: then what it has open closes at the end.
func isOwn(s api.State) bool {
	return len(mdblock.End(s)) > 0
}

// holdNone holds that s counts as the zero state, whatever line comes.
func holdNone(t *testing.T, why string, s api.State) {
	t.Helper()
	if ev := mdblock.End(s); len(ev) != 0 {
		t.Errorf("%s: End(%v) = %s", why, s, told(ev))
	}
	for _, line := range []string{"", "\n", "x", "  x\r\n", "    x", "> x", "- x", "===", "~~~", "> > x", "  - x", "1. x", "# x"} {
		want, behind := mdblock.Scan(api.State{}, line)
		ev, now := mdblock.Scan(s, line)
		if told(ev) != told(want) || now != behind {
			t.Errorf("%s: Scan(%v, %q) = %s, %v", why, s, line, told(ev), now)
		}
	}
}

// R9: what is no state of Markdown counts as the zero state: a state is one no more, if anything that Words asks of it is turned.
func TestStatesThatAreNone(t *testing.T) {
	for why, turn := range map[string]func(*api.State){
		"another Kind":                func(s *api.State) { s.Stack[0].Kind = api.MdItem },
		"the Kind of a list":          func(s *api.State) { s.Stack[1].Kind = api.MdTight },
		"the Kind of a paragraph":     func(s *api.State) { s.Stack[0].Kind = api.MdPara },
		"an item's frame as a quote":  func(s *api.State) { s.Stack[1].Kind = api.MdQuote },
		"no Kind":                     func(s *api.State) { s.Stack[0].Kind = 0 },
		"the Kind of another":         func(s *api.State) { s.Stack[2].Kind = api.YamlSeq },
		"a quote's Mark":              func(s *api.State) { s.Stack[0].Mark = '>' },
		"a quote's Flags":             func(s *api.State) { s.Stack[0].Flags = 1 },
		"a quote's column":            func(s *api.State) { s.Stack[0].Col = 2 },
		"an item without Mark":        func(s *api.State) { s.Stack[1].Mark = 0 },
		"another Mark":                func(s *api.State) { s.Stack[1].Mark = '>' },
		"a digit as Mark":             func(s *api.State) { s.Stack[1].Mark = '1' },
		"an item's Flags":             func(s *api.State) { s.Stack[1].Flags = 4 },
		"an item's Flags, all":        func(s *api.State) { s.Stack[2].Flags = 255 },
		"a column of 1":               func(s *api.State) { s.Stack[1].Col = 1 },
		"a column of 0":               func(s *api.State) { s.Stack[1].Col = 0 },
		"a column of 18":              func(s *api.State) { s.Stack[2].Col = 18 },
		"a column below 0":            func(s *api.State) { s.Stack[2].Col = -2 },
		"a column far out":            func(s *api.State) { s.Stack[2].Col = math.MaxInt },
		"a column far below 0":        func(s *api.State) { s.Stack[2].Col = math.MinInt },
		"the last frame is missing":   func(s *api.State) { s.Stack[2] = api.Frame{} },
		"the first frame is missing":  func(s *api.State) { s.Stack[0] = api.Frame{} },
		"a quote behind the Depth":    func(s *api.State) { s.Stack[3].Kind = api.MdQuote },
		"an item behind the Depth":    func(s *api.State) { s.Stack[15] = api.Frame{Kind: api.MdItem, Mark: '-', Col: 2} },
		"a column behind the Depth":   func(s *api.State) { s.Stack[3].Col = 2 },
		"a Mark behind the Depth":     func(s *api.State) { s.Stack[3].Mark = '-' },
		"Flags behind the Depth":      func(s *api.State) { s.Stack[15].Flags = 1 },
		"a Depth of fewer":            func(s *api.State) { s.Depth = 2 },
		"a Depth of more":             func(s *api.State) { s.Depth = 4 },
		"a Depth of none":             func(s *api.State) { s.Depth = 0 },
		"a Depth below 0":             func(s *api.State) { s.Depth = -1 },
		"a Depth far below 0":         func(s *api.State) { s.Depth = math.MinInt },
		"a Depth above MaxStack":      func(s *api.State) { s.Depth = api.MaxStack + 1 },
		"a Depth far above MaxStack":  func(s *api.State) { s.Depth = math.MaxInt },
		"a word":                      func(s *api.State) { s.Docs[0].Word = "E" },
		"the last word":               func(s *api.State) { s.Docs[3].Word = "\x00" },
		"a Strip":                     func(s *api.State) { s.Docs[1].Strip = true },
		"a Raw":                       func(s *api.State) { s.Docs[2].Raw = true },
		"a Wait":                      func(s *api.State) { s.Wait = 1 },
		"a Wait below 0":              func(s *api.State) { s.Wait = -1 },
		"a Mode 4":                    func(s *api.State) { s.Mode = 4 },
		"a Mode 255":                  func(s *api.State) { s.Mode = 255 },
		"another Mark of the state":   func(s *api.State) { s.Mark = '*' },
		"another Mark of the state 2": func(s *api.State) { s.Mark = 1 },
		"Flags of the state":          func(s *api.State) { s.Flags = 4 },
		"a Count below 0":             func(s *api.State) { s.Count = -1 },
		"a Count of 2":                func(s *api.State) { s.Count = 2 },
		"a Count far out":             func(s *api.State) { s.Count = most + 1 },
	} {
		for _, signs := range []string{"> -2 .17LB", "> -2L )4 p", "> +3 *4B c", "> -2 -2 ~3", "> -2 -2 `1048576:3"} {
			s := state(signs)
			if !isOwn(s) {
				t.Fatalf("%s is no state of Markdown", signs)
			}
			turn(&s)
			holdNone(t, why, s)
		}
	}
}

// R9: what each Mode asks of Mark, Flags and Count, with frames and without.
func TestModesThatAreNone(t *testing.T) {
	for _, frames := range []string{"", ">", "-2 >"} {
		for mode := range uint8(6) {
			for _, mark := range []byte{0, 1, '-', '`', '~', '_', 'a', '}', 127, 255} {
				for flags := range uint8(6) {
					for _, count := range []int{math.MinInt, -1, 0, 1, 2, 3, 4, most - 1, most, most + 1, math.MaxInt} {
						s := state(frames)
						s.Mode, s.Mark, s.Flags, s.Count = mode, mark, flags, count
						is := mode < 4 && mark == 0 && flags == 0 && count == 0
						if mode == 2 {
							is = (mark == '~' || mark == '`') && flags < 4 && count >= 3 && count <= most
						}
						// The zero state has nothing open.
						if own := isOwn(s); own != (is && s != api.State{}) {
							t.Errorf("%v counts as itself: %v", s, own)
						}
						if !is {
							holdNone(t, "Mode, Mark, Flags or Count", s)
						}
					}
				}
			}
		}
	}
}

// R9: what an item's frame may be, whatever its Mark, Flags and column.
func TestItemsThatAreNone(t *testing.T) {
	for mark := range 256 {
		for _, flags := range []uint8{0, 1, 2, 3, 4, 128} {
			for _, col := range []int{math.MinInt, -2, 0, 1, 2, 3, 16, 17, 18, math.MaxInt} {
				s := api.State{Depth: 1}
				s.Stack[0] = api.Frame{Kind: api.MdItem, Mark: byte(mark), Flags: flags, Col: col}
				is := (mark == '-' || mark == '+' || mark == '*' || mark == '.' || mark == ')') && flags < 4 && col >= 2 && col <= 17
				if is != isOwn(s) {
					t.Errorf("%v counts as itself: %v", s, !is)
				}
			}
		}
	}
}

// R9: a state with as many frames as there is room for, and none that is beyond.
func TestDepths(t *testing.T) {
	for depth := 1; depth <= api.MaxStack; depth++ {
		s := api.State{Depth: depth}
		for i := range depth {
			s.Stack[i].Kind = api.MdQuote
		}
		if !isOwn(s) {
			t.Errorf("%v does not count as a state of Markdown", s)
		}
		for _, other := range []int{math.MinInt, -1, 0, depth - 1, depth + 1, api.MaxStack, api.MaxStack + 1, math.MaxInt} {
			s.Depth = other
			if other != depth {
				holdNone(t, "another Depth", s)
			}
		}
	}
}

// eachField hands on each field of v, which may be set, by its name.
func eachField(name string, v reflect.Value, each func(string, reflect.Value)) {
	switch v.Kind() {
	case reflect.Struct:
		for i := range v.NumField() {
			eachField(name+"."+v.Type().Field(i).Name, v.Field(i), each)
		}
	case reflect.Array:
		for i := range v.Len() {
			eachField(name+"["+strconv.Itoa(i)+"]", v.Index(i), each)
		}
	default:
		each(name, v)
	}
}

// valuesOf are values that a field of v's kind may be set to, all of them that may make a state one of Markdown among them.
func valuesOf(v reflect.Value) []any {
	switch v.Kind() {
	case reflect.Uint8:
		var l []any
		for n := range 256 {
			l = append(l, uint8(n))
		}
		return l
	case reflect.Int:
		return []any{math.MinInt, -most, -1, 0, 1, 2, 3, 4, 5, 6, 9, 15, 16, 17, 18, 32, 256, most - 1, most, most + 1, 1 << 40, math.MaxInt}
	case reflect.Bool:
		return []any{false, true}
	}
	return []any{"", "E", "\x00"}
}

// R9: each field of each state, one at a time, made anything else: whether it is a state of Markdown still hangs on the words alone.
func TestEachField(t *testing.T) {
	for _, signs := range append(someStates, "> -17LB", "*2 ~1048576", full+" `3:3") {
		now := state(signs)
		eachField("", reflect.ValueOf(&now).Elem(), func(name string, v reflect.Value) {
			was := reflect.ValueOf(v.Interface())
			for _, value := range valuesOf(v) {
				v.Set(reflect.ValueOf(value))
				if _, is := modelOf(now); isOwn(now) != (is && now != api.State{}) {
					t.Errorf("%s made %v: %v counts as itself: %v", name, value, now, isOwn(now))
				}
			}
			v.Set(was)
		})
	}
}
