package yamlblock_test

import (
	"math"
	"reflect"
	"strconv"
	"testing"

	"indenture/api"
	"indenture/yamlblock"
)

// isOwn tells whether s does not count as the zero state, but as itself: a line without bytes leaves it as it is.
func isOwn(s api.State) bool {
	_, behind := yamlblock.Scan(s, "")
	return behind == s
}

// holdNone holds that s counts as the zero state, whatever line comes.
func holdNone(t *testing.T, why string, s api.State) {
	t.Helper()
	if isOwn(s) {
		t.Errorf("%s: %v counts as a state of YAML", why, s)
	}
	for _, line := range []string{"", "\n", "# a", "  # a\r\n", "x", "x:\n", "  x: y", "\tx", "- x", " - - x", "|", "'x'", "'x", "---", "    x"} {
		want, behind := yamlblock.Scan(api.State{}, line)
		ev, now := yamlblock.Scan(s, line)
		if told(ev) != told(want) || now != behind {
			t.Errorf("%s: Scan(%v, %q) = %s, %v", why, s, line, told(ev), now)
		}
	}
}

// R9: what is no state of YAML counts as the zero state: a state is one no more, if anything that Words asks of it is turned.
func TestStatesThatAreNone(t *testing.T) {
	for why, turn := range map[string]func(*api.State){
		"another Kind":               func(s *api.State) { s.Stack[1].Kind = api.YamlPair },
		"the Kind of an item":        func(s *api.State) { s.Stack[2].Kind = api.YamlItem },
		"no Kind":                    func(s *api.State) { s.Stack[0].Kind = 0 },
		"the Kind of another":        func(s *api.State) { s.Stack[2].Kind = api.PyBlock },
		"a frame's Mark":             func(s *api.State) { s.Stack[0].Mark = 1 },
		"the last frame's Mark":      func(s *api.State) { s.Stack[2].Mark = 1 },
		"the first frame awaits":     func(s *api.State) { s.Stack[0].Flags = 1 },
		"the second frame awaits":    func(s *api.State) { s.Stack[1].Flags = 1 },
		"a frame's Flags":            func(s *api.State) { s.Stack[2].Flags = 2 },
		"mappings of one column":     func(s *api.State) { s.Stack[1] = api.Frame{Kind: api.YamlMap, Col: 3} },
		"columns that fall":          func(s *api.State) { s.Stack[1].Col = 2 },
		"the last column falls":      func(s *api.State) { s.Stack[2].Col = 6 },
		"a mapping in a sequence":    func(s *api.State) { s.Stack[2].Kind = api.YamlMap; s.Stack[1].Kind = api.YamlSeq },
		"sequences of one column":    func(s *api.State) { s.Stack[1].Kind = api.YamlSeq },
		"a column below 0":           func(s *api.State) { s.Stack[0].Col = -1 },
		"a column far below 0":       func(s *api.State) { s.Stack[0].Col = math.MinInt },
		"a column above MaxText":     func(s *api.State) { s.Stack[2].Col = most + 1 },
		"a column far out":           func(s *api.State) { s.Stack[2].Col = math.MaxInt },
		"the last frame is missing":  func(s *api.State) { s.Stack[2] = api.Frame{} },
		"a frame behind the Depth":   func(s *api.State) { s.Stack[3] = api.Frame{Kind: api.YamlMap, Col: 9} },
		"a Kind behind the Depth":    func(s *api.State) { s.Stack[3].Kind = api.YamlMap },
		"a column behind the Depth":  func(s *api.State) { s.Stack[15].Col = 1 },
		"a Mark behind the Depth":    func(s *api.State) { s.Stack[4].Mark = 1 },
		"Flags behind the Depth":     func(s *api.State) { s.Stack[3].Flags = 1 },
		"a Depth of fewer":           func(s *api.State) { s.Depth = 2 },
		"a Depth of more":            func(s *api.State) { s.Depth = 4 },
		"a Depth of none":            func(s *api.State) { s.Depth = 0 },
		"a Depth below 0":            func(s *api.State) { s.Depth = -1 },
		"a Depth far below 0":        func(s *api.State) { s.Depth = math.MinInt },
		"a Depth above MaxStack":     func(s *api.State) { s.Depth = api.MaxStack + 1 },
		"a Depth far above MaxStack": func(s *api.State) { s.Depth = math.MaxInt },
		"a word":                     func(s *api.State) { s.Docs[0].Word = "E" },
		"the last word":              func(s *api.State) { s.Docs[3].Word = "\x00" },
		"a Strip":                    func(s *api.State) { s.Docs[1].Strip = true },
		"a Raw":                      func(s *api.State) { s.Docs[2].Raw = true },
		"a Wait":                     func(s *api.State) { s.Wait = 1 },
		"a Wait below 0":             func(s *api.State) { s.Wait = -1 },
		"a Mark":                     func(s *api.State) { s.Mark = 1 },
		"a Mode 2":                   func(s *api.State) { s.Mode = 2 },
		"a Mode 255":                 func(s *api.State) { s.Mode = 255 },
		"Flags beside frames":        func(s *api.State) { s.Flags = 1 },
		"a Count below 0":            func(s *api.State) { s.Count = -1 },
		"a Count far out":            func(s *api.State) { s.Count = most + 10 },
	} {
		for _, signs := range []string{"%3 %7 -7", "%3 %7 -7 !", "%3 %7 -7 |0", "%3 %7 -7 |9"} {
			s := state(signs)
			if !isOwn(s) {
				t.Fatalf("%s is no state of YAML", signs)
			}
			turn(&s)
			holdNone(t, why, s)
		}
	}
}

// R9: what each Mode asks of Flags, Count and Mark, with frames and without, awaiting something and not.
func TestModesThatAreNone(t *testing.T) {
	for _, frames := range []string{"", "%0", "-3", "%3 -3", "-0 %2 -4"} {
		for mode := range uint8(4) {
			for _, count := range []int{math.MinInt, -1, 0, 1, 9, most - 1, most, most + 8, most + 9, most + 10, math.MaxInt} {
				for flags := range uint8(4) {
					for last := range uint8(4) {
						for mark := range byte(2) {
							s := state(frames)
							s.Mode, s.Count, s.Flags, s.Mark = mode, count, flags, mark
							if s.Depth > 0 {
								s.Stack[s.Depth-1].Flags = last
							} else {
								s.Stack[0].Flags = last
							}
							is := mark == 0 && (mode == 0 && count == 0 || mode == 1 && count >= 0 && count <= most+9 && last == 0)
							if s.Depth > 0 {
								is = is && flags == 0 && last <= 1
							} else {
								is = is && flags <= 1 && last == 0 && (mode == 0 || flags == 1)
							}
							if is != isOwn(s) {
								t.Errorf("%v counts as itself: %v", s, !is)
							}
							if !is {
								holdNone(t, "Mode, Flags, Count or Mark", s)
							}
						}
					}
				}
			}
		}
	}
}

// R9: which columns two frames may have, one above the other.
func TestColumnsThatAreNone(t *testing.T) {
	kinds := []uint8{api.YamlMap, api.YamlSeq}
	for _, below := range kinds {
		for _, above := range kinds {
			for _, low := range []int{math.MinInt, -1, 0, 1, 5, most - 1, most, most + 1} {
				for _, high := range []int{math.MinInt, -1, 0, 1, 2, 5, most - 1, most, most + 1, math.MaxInt} {
					s := api.State{Depth: 2}
					s.Stack[0] = api.Frame{Kind: below, Col: low}
					s.Stack[1] = api.Frame{Kind: above, Col: high}
					is := low >= 0 && high <= most && (high > low || high == low && above == api.YamlSeq && below == api.YamlMap)
					if is != isOwn(s) {
						t.Errorf("%v counts as itself: %v", s, !is)
					}
				}
			}
		}
	}
}

// R9: a state with as many frames as there is room for, and none that is beyond.
func TestDepths(t *testing.T) {
	for depth := range api.MaxStack + 1 {
		s := state(nested(depth, 0))
		if depth > 0 {
			s.Stack[depth-1].Flags = 1
		}
		if !isOwn(s) {
			t.Errorf("%v does not count as a state of YAML", s)
		}
		for _, other := range []int{math.MinInt, -1, 0, 1, depth - 1, depth + 1, api.MaxStack, api.MaxStack + 1, math.MaxInt} {
			s.Depth = other
			if other != depth {
				holdNone(t, "another Depth", s)
			}
		}
	}
}

// eachField hands on each field of v, which may be set, by its name.
func eachField(name string, v reflect.Value, each func(string, reflect.Value)) {
	switch v.Kind() {
	case reflect.Struct:
		for i := range v.NumField() {
			eachField(name+"."+v.Type().Field(i).Name, v.Field(i), each)
		}
	case reflect.Array:
		for i := range v.Len() {
			eachField(name+"["+strconv.Itoa(i)+"]", v.Index(i), each)
		}
	default:
		each(name, v)
	}
}

// valuesOf are values that a field of v's kind may be set to, all of them that may make a state one of YAML among them.
func valuesOf(v reflect.Value) []any {
	switch v.Kind() {
	case reflect.Uint8:
		var l []any
		for n := range 256 {
			l = append(l, uint8(n))
		}
		return l
	case reflect.Int:
		return []any{math.MinInt, -most, -1, 0, 1, 2, 3, 4, 5, 6, 7, 8, 9, 10, 15, 16, 17, 32, 33, 256, most - 1, most, most + 1, most + 8, most + 9, most + 10, 1 << 40, math.MaxInt}
	case reflect.Bool:
		return []any{false, true}
	}
	return []any{"", "E", "\x00"}
}

// R9: each field of each state, one at a time, made anything else: whether it is a state of YAML still hangs on the words alone.
func TestEachField(t *testing.T) {
	for _, signs := range append(someStates, nested(16, 3), nested(16, 0)+" !", nested(15, 0)+" |12", "%"+strconv.Itoa(most), "= |"+strconv.Itoa(most+9)) {
		now := state(signs)
		if !isOwn(now) {
			t.Errorf("%s does not count as a state of YAML", signs)
		}
		eachField("", reflect.ValueOf(&now).Elem(), func(name string, v reflect.Value) {
			was := reflect.ValueOf(v.Interface())
			for _, value := range valuesOf(v) {
				v.Set(reflect.ValueOf(value))
				if _, is := modelOf(now); is != isOwn(now) {
					t.Errorf("%s made %v: %v counts as itself: %v", name, value, now, !is)
				}
			}
			v.Set(was)
		})
	}
}
