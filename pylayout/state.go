package pylayout

import "indenture/api"

// What the Mode of a state may be.
const (
	between uint8 = iota // at the beginning of a logical line
	within               // within one
)

// What the Flags of a state may be, if they are not 0.
const (
	headAhead uint8 = 1 // between: the logical line ahead is a head
	colonLast uint8 = 2 // within: what was read of the logical line last ended in a colon
)

// What a field of a state may be at most.
const (
	mostCol  = 8 * api.MaxText
	mostMark = 4
)

// counted is the state that s counts as.
func counted(s api.State) api.State {
	if !isPython(s) {
		return api.State{}
	}
	return s
}

// isPython tells whether s is a state of Python: whether it is the same as one that is laid anew of what such a state may have.
func isPython(s api.State) bool {
	if s.Depth < 0 || s.Depth > api.MaxStack || !isLine(s) {
		return false
	}
	own := api.State{Depth: s.Depth, Mode: s.Mode, Mark: s.Mark, Flags: s.Flags, Count: s.Count}
	below := 0
	for i, f := range s.Stack[:s.Depth] {
		if f.Col <= below || f.Col > mostCol {
			return false
		}
		own.Stack[i] = api.Frame{Kind: api.PyBlock, Col: f.Col}
		below = f.Col
	}
	return s == own
}

// isLine tells whether s may be so as to the logical line that it stands at or within.
func isLine(s api.State) bool {
	switch s.Mode {
	case between:
		return s.Mark == 0 && s.Count == 0 && (s.Flags == 0 || s.Flags == headAhead)
	case within:
		return s.Mark <= mostMark && s.Count >= 0 && s.Count <= api.MaxText && (s.Flags == 0 || s.Flags == colonLast)
	}
	return false
}
