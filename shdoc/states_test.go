package shdoc_test

import (
	"math"
	"reflect"
	"strconv"
	"strings"
	"testing"

	"indenture/api"
	"indenture/shdoc"
)

// someStates are states of the shell's, of every kind.
var someStates = []api.State{
	nothing, going(0), going('\''), going('"'), going(0, "E"), going('"', "-E'", "F"), going('\'', "", "", "", ""), going(0, "a", "b", "c", "d"),
	inside("E"), inside("-E'"), inside(""), inside("-"), inside("a\nb"), inside("E", "-F", "'"), inside("a", "b", "c", "d"), inside("", "", "", ""),
	inside(strings.Repeat("x", api.MaxWord)), going(0, "E", strings.Repeat("\n", api.MaxWord)),
}

// holdNone holds that s counts as the zero state, whatever is asked.
func holdNone(t *testing.T, why string, s api.State) {
	t.Helper()
	if shdoc.Own(s) {
		t.Errorf("%s: %v is a state of the shell's", why, s)
	}
	for _, line := range []string{"", "\n", "a\n", "# a", "a <<E\n", "'\n", "E\n", "\tE\n", "a'", "a\\\n", "<<A <<B <<C <<D\n"} {
		want, behind := shdoc.Scan(nothing, line)
		ev, now := shdoc.Scan(s, line)
		if told(ev) != told(want) || now != behind {
			t.Errorf("%s: Scan(%v, %q) = %s, %v", why, s, line, told(ev), now)
		}
	}
	holdEnd(t, s, "")
}

// P16.1, R9: states of the shell's, and what they are no more, if anything that Words asks of them is turned.
func TestOwn(t *testing.T) {
	for _, s := range someStates {
		if !shdoc.Own(s) {
			t.Errorf("%v is no state of the shell's", s)
		}
		for why, turn := range map[string]func(*api.State){
			"a frame":               func(s *api.State) { s.Stack[0].Kind = api.ShLine },
			"a frame's Mark":        func(s *api.State) { s.Stack[0].Mark = 1 },
			"a frame's Flags":       func(s *api.State) { s.Stack[1].Flags = 1 },
			"the last column":       func(s *api.State) { s.Stack[15].Col = 1 },
			"a Depth":               func(s *api.State) { s.Depth = 1 },
			"a Depth below 0":       func(s *api.State) { s.Depth = -1 },
			"Flags":                 func(s *api.State) { s.Flags = 1 },
			"a Count":               func(s *api.State) { s.Count = 1 },
			"a Count below 0":       func(s *api.State) { s.Count = -1 },
			"a Wait below 0":        func(s *api.State) { s.Wait = -1 },
			"a Wait far below 0":    func(s *api.State) { s.Wait = math.MinInt },
			"a Wait above MaxDocs":  func(s *api.State) { s.Wait = api.MaxDocs + 1 },
			"a Wait far out":        func(s *api.State) { s.Wait = math.MaxInt },
			"a Mode 3":              func(s *api.State) { s.Mode = 3 },
			"a Mode 255":            func(s *api.State) { s.Mode = 255 },
			"a Mark that is none":   func(s *api.State) { s.Mark = 'a' },
			"a Mark 1":              func(s *api.State) { s.Mark = 1 },
			"a Mark 255":            func(s *api.State) { s.Mark = 255 },
			"an accent as Mark":     func(s *api.State) { s.Mark = '`' },
			"a word that is longer": func(s *api.State) { s.Docs[0].Word = strings.Repeat("x", api.MaxWord+1); s.Wait = max(s.Wait, 1) },
		} {
			now := s
			turn(&now)
			holdNone(t, why, now)
		}
	}
}

// P16.1: what each Mode asks of the Mark and of how many documents wait.
func TestModes(t *testing.T) {
	all := []string{"E", "-F'", "", "-G"}
	for mode := range 256 {
		for n := range len(all) + 1 {
			for mark := range 256 {
				s := state(uint8(mode), byte(mark), all[:n]...)
				is := mode == 0 && mark == 0 && n == 0 || mode == 1 && (mark == 0 || mark == 39 || mark == 34) || mode == 2 && mark == 0 && n > 0
				if shdoc.Own(s) != is {
					t.Errorf("Own(%v) is %v", s, !is)
				}
			}
		}
	}
}

// P16.1: documents: as many as wait, the first ones, each with a word that is not too long, whatever bytes it has.
func TestDocumentsOfStates(t *testing.T) {
	for _, x := range []string{"", "E", "-E", "E'", "-'", "a b", "\n", "\x00", "\xff", strings.Repeat("x", 63), strings.Repeat("x", 64), strings.Repeat("x", 65), strings.Repeat("x", 1000)} {
		for i := range api.MaxDocs {
			for n := -1; n <= api.MaxDocs+1; n++ {
				s := api.State{Mode: 1, Wait: n}
				s.Docs[i] = doc(x)
				is := n >= 0 && n <= 4 && (i < n || x == "") && len(x) < 65
				if shdoc.Own(s) != is {
					t.Errorf("Own(%v) is %v", s, !is)
				}
			}
		}
	}
}

// eachField hands on each field of v, which may be set, by its name.
func eachField(name string, v reflect.Value, each func(string, reflect.Value)) {
	switch v.Kind() {
	case reflect.Struct:
		for i := range v.NumField() {
			eachField(name+"."+v.Type().Field(i).Name, v.Field(i), each)
		}
	case reflect.Array:
		for i := range v.Len() {
			eachField(name+"["+strconv.Itoa(i)+"]", v.Index(i), each)
		}
	default:
		each(name, v)
	}
}

// valuesOf are values that a field of v's kind may be set to, all of them that may make a state one of the shell's among them.
func valuesOf(v reflect.Value) []any {
	switch v.Kind() {
	case reflect.Uint8:
		var l []any
		for n := range 256 {
			l = append(l, uint8(n))
		}
		return l
	case reflect.Int:
		return []any{math.MinInt, -256, -1, 0, 1, 2, 3, 4, 5, 6, 15, 16, 17, 256, 1 << 32, 1<<32 + 1, math.MaxInt}
	case reflect.Bool:
		return []any{false, true}
	}
	return []any{"", "E", "\x00", "\n", strings.Repeat("y", 64), strings.Repeat("y", 65)}
}

// P16.1, R9: each field of each state, one at a time, made anything else: whether it is a state of the shell's still hangs on the words alone.
func TestEachField(t *testing.T) {
	for _, now := range someStates {
		eachField("", reflect.ValueOf(&now).Elem(), func(name string, v reflect.Value) {
			was := reflect.ValueOf(v.Interface())
			for _, value := range valuesOf(v) {
				v.Set(reflect.ValueOf(value))
				if _, is := modelOf(now); is != shdoc.Own(now) {
					t.Errorf("%s made %v: Own(%v) is %v", name, value, now, !is)
				}
			}
			v.Set(was)
		})
	}
}
