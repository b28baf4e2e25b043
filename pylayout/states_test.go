package pylayout_test

import (
	"math"
	"reflect"
	"strconv"
	"testing"

	"indenture/api"
	"indenture/pylayout"
)

// bases are states of Python of every kind.
func bases() []api.State {
	var l []api.State
	for _, s := range []api.State{cols(), cols(1), cols(3, 7, 8), cols(4, 8*most-1, 8*most), full()} {
		l = append(l, s, behindHead(s), inLine(s, 0, 0, 0), inLine(s, 0, 0, 2), inLine(s, 1, 0, 0), inLine(s, 4, 3, 2), inLine(s, 2, most, 0))
	}
	return l
}

// isOwn tells whether s does not count as the zero state, but as itself: a line without bytes leaves it as it is, or ends the logical line.
func isOwn(s api.State) bool {
	ev, behind := pylayout.Scan(s, "")
	return behind == s || len(ev) > 0
}

// holdNone holds that s counts as the zero state, whatever line comes.
func holdNone(t *testing.T, why string, s api.State) {
	t.Helper()
	if isOwn(s) {
		t.Errorf("%s: %v counts as a state of Python", why, s)
	}
	for _, line := range []string{"", "\n", "# a", "  # a\r\n", "x", "x:\n", " x", "\tx:", "(", "'''", "''' )", "\\", ":"} {
		want, behind := pylayout.Scan(api.State{}, line)
		hold(t, s, line, told(want), behind)
	}
	if ev := pylayout.End(s); len(ev) > 0 {
		t.Errorf("%s: End(%v) = %s", why, s, told(ev))
	}
}

// turned is s with a field turned.
func turned(s api.State, turn func(*api.State)) api.State {
	turn(&s)
	return s
}

// R9: what is no state of Python counts as the zero state: a state is one no more, if anything that Words asks of it is turned.
func TestStatesThatAreNone(t *testing.T) {
	for why, turn := range map[string]func(*api.State){
		"another Kind":               func(s *api.State) { s.Stack[1].Kind = api.PySimple },
		"no Kind":                    func(s *api.State) { s.Stack[0].Kind = 0 },
		"the Kind of another":        func(s *api.State) { s.Stack[2].Kind = api.YamlMap },
		"a frame's Mark":             func(s *api.State) { s.Stack[0].Mark = 1 },
		"a frame's Flags":            func(s *api.State) { s.Stack[2].Flags = 1 },
		"columns that are equal":     func(s *api.State) { s.Stack[1].Col = 3 },
		"columns that fall":          func(s *api.State) { s.Stack[1].Col = 2 },
		"the last column falls":      func(s *api.State) { s.Stack[2].Col = 6 },
		"a column 0":                 func(s *api.State) { s.Stack[0].Col = 0 },
		"a column below 0":           func(s *api.State) { s.Stack[0].Col = -1 },
		"a column above 8 MaxText":   func(s *api.State) { s.Stack[2].Col = 8*most + 1 },
		"a column far out":           func(s *api.State) { s.Stack[2].Col = math.MaxInt },
		"the last frame is missing":  func(s *api.State) { s.Stack[2] = api.Frame{} },
		"a frame behind the Depth":   func(s *api.State) { s.Stack[3] = api.Frame{Kind: api.PyBlock, Col: 9} },
		"a Kind behind the Depth":    func(s *api.State) { s.Stack[3].Kind = api.PyBlock },
		"a column behind the Depth":  func(s *api.State) { s.Stack[15].Col = 1 },
		"a Mark behind the Depth":    func(s *api.State) { s.Stack[4].Mark = 1 },
		"Flags behind the Depth":     func(s *api.State) { s.Stack[3].Flags = 1 },
		"a Depth of fewer":           func(s *api.State) { s.Depth = 2 },
		"a Depth of more":            func(s *api.State) { s.Depth = 4 },
		"a Depth of none":            func(s *api.State) { s.Depth = 0 },
		"a Depth below 0":            func(s *api.State) { s.Depth = -1 },
		"a Depth far below 0":        func(s *api.State) { s.Depth = math.MinInt },
		"a Depth above MaxStack":     func(s *api.State) { s.Depth = api.MaxStack + 1 },
		"a Depth far above MaxStack": func(s *api.State) { s.Depth = math.MaxInt },
		"a word":                     func(s *api.State) { s.Docs[0].Word = "E" },
		"the last word":              func(s *api.State) { s.Docs[3].Word = "\x00" },
		"a Strip":                    func(s *api.State) { s.Docs[1].Strip = true },
		"a Raw":                      func(s *api.State) { s.Docs[2].Raw = true },
		"a Wait":                     func(s *api.State) { s.Wait = 1 },
		"a Wait below 0":             func(s *api.State) { s.Wait = -1 },
		"a Mode 2":                   func(s *api.State) { s.Mode = 2 },
		"a Mode 255":                 func(s *api.State) { s.Mode = 255 },
	} {
		frames := cols(3, 7, 8)
		for _, s := range []api.State{frames, behindHead(frames), inLine(frames, 0, 0, 0), inLine(frames, 0, 1, 2), inLine(frames, 1, 0, 0)} {
			if !isOwn(s) {
				t.Fatalf("%v is no state of Python", s)
			}
			holdNone(t, why, turned(s, turn))
		}
	}
}

// R9: what each Mode asks of Mark, Count and Flags.
func TestModesThatAreNone(t *testing.T) {
	for _, frames := range []api.State{cols(), cols(3, 7)} {
		for mode := range uint8(4) {
			for _, mark := range []byte{0, 1, 2, 3, 4, 5, 6, 128, 255} {
				for _, count := range []int{math.MinInt, -1, 0, 1, 2, most - 1, most, most + 1, math.MaxInt} {
					for flags := range uint8(6) {
						s := frames
						s.Mode, s.Mark, s.Count, s.Flags = mode, mark, count, flags
						is := mode == 0 && mark == 0 && count == 0 && flags <= 1 || mode == 1 && mark <= 4 && count >= 0 && count <= most && (flags == 0 || flags == 2)
						if s == (api.State{}) {
							continue
						}
						if !is {
							holdNone(t, "Mode, Mark, Count or Flags", s)
						} else if !isOwn(s) {
							t.Errorf("%v does not count as a state of Python", s)
						}
					}
				}
			}
		}
	}
}

// R9: a state with as many frames as there is room for, and none that is beyond.
func TestDepths(t *testing.T) {
	for depth := range api.MaxStack + 1 {
		var l []int
		for i := range depth {
			l = append(l, 3*i+1)
		}
		if s := behindHead(cols(l...)); !isOwn(s) {
			t.Errorf("%v does not count as a state of Python", s)
		}
		for _, other := range []int{math.MinInt, -1, 0, 1, depth - 1, depth + 1, api.MaxStack, api.MaxStack + 1, math.MaxInt} {
			s := behindHead(cols(l...))
			s.Depth = other
			if other != depth {
				holdNone(t, "another Depth", s)
			}
		}
	}
}

// eachField hands on each field of v, which may be set, by its name.
func eachField(name string, v reflect.Value, each func(string, reflect.Value)) {
	switch v.Kind() {
	case reflect.Struct:
		for i := range v.NumField() {
			eachField(name+"."+v.Type().Field(i).Name, v.Field(i), each)
		}
	case reflect.Array:
		for i := range v.Len() {
			eachField(name+"["+strconv.Itoa(i)+"]", v.Index(i), each)
		}
	default:
		each(name, v)
	}
}

// valuesOf are values that a field of v's kind may be set to, all of them that may make a state one of Python among them.
func valuesOf(v reflect.Value) []any {
	switch v.Kind() {
	case reflect.Uint8:
		var l []any
		for n := range 256 {
			l = append(l, uint8(n))
		}
		return l
	case reflect.Int:
		return []any{math.MinInt, -8 * most, -1, 0, 1, 2, 3, 4, 5, 6, 7, 8, 9, 15, 16, 17, 32, 33, 256, most - 1, most, most + 1, 8*most - 2, 8*most - 1, 8 * most, 8*most + 1, 1 << 40, math.MaxInt}
	case reflect.Bool:
		return []any{false, true}
	}
	return []any{"", "E", "\x00"}
}

// R9: each field of each state, one at a time, made anything else: whether it is a state of Python still hangs on the words alone.
func TestEachField(t *testing.T) {
	for _, s := range bases() {
		if !isOwn(s) {
			t.Errorf("%v does not count as a state of Python", s)
		}
		now := s
		eachField("", reflect.ValueOf(&now).Elem(), func(name string, v reflect.Value) {
			was := reflect.ValueOf(v.Interface())
			for _, value := range valuesOf(v) {
				v.Set(reflect.ValueOf(value))
				if _, is := modelOf(now); is && !isOwn(now) {
					t.Errorf("%s made %v: %v does not count as a state of Python", name, value, now)
				} else if !is && isOwn(now) {
					t.Errorf("%s made %v: %v counts as a state of Python", name, value, now)
				}
			}
			v.Set(was)
		})
	}
}
