package yamlblock

import "indenture/api"

// What the Mode of a state may be.
const (
	between uint8 = iota // at the beginning of a line of data
	within               // within a block scalar
)

// awaits are the Flags of the last frame, if what belongs to its entry may still come.
const awaits uint8 = 1

// filled are the Flags of a state without frames, if something stands in the document already.
const filled uint8 = 1

// mostDigit is what the digit of a block scalar's sign may be at most.
const mostDigit = 9

// counted is the state that s counts as.
func counted(s api.State) api.State {
	if !isYaml(s) {
		return api.State{}
	}
	return s
}

// isYaml tells whether s is a state of YAML: whether it is the same as one that is laid anew of what such a state may have.
func isYaml(s api.State) bool {
	if s.Depth < 0 || s.Depth > api.MaxStack || !isDocument(s) {
		return false
	}
	own := api.State{Depth: s.Depth, Mode: s.Mode, Flags: s.Flags, Count: s.Count}
	below := api.Frame{Col: -1}
	for i, f := range s.Stack[:s.Depth] {
		last := i == s.Depth-1 && s.Mode == between
		if !mayStand(below, f) || f.Flags != 0 && !(last && f.Flags == awaits) {
			return false
		}
		own.Stack[i] = api.Frame{Kind: f.Kind, Flags: f.Flags, Col: f.Col}
		below = f
	}
	return s == own
}

// isDocument tells whether s may be so as to what stands in the document, and to the block scalar that is open.
func isDocument(s api.State) bool {
	if s.Flags != 0 && (s.Flags != filled || s.Depth > 0) {
		return false
	}
	switch s.Mode {
	case between:
		return s.Count == 0
	case within:
		return s.Count >= 0 && s.Count <= api.MaxText+mostDigit && (s.Depth > 0 || s.Flags == filled)
	}
	return false
}

// mayStand tells whether f may be a frame right above below, as to its kind and its column.
func mayStand(below, f api.Frame) bool {
	if f.Kind != api.YamlMap && f.Kind != api.YamlSeq || f.Col > api.MaxText {
		return false
	}
	return f.Col > below.Col || f.Col == below.Col && f.Kind == api.YamlSeq && below.Kind == api.YamlMap
}
