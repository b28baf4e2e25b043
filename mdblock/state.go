package mdblock

import (
	"strings"

	"indenture/api"
)

// What the Mode of a state may be: which block is open within the last frame.
const (
	noBlock uint8 = iota
	inPara
	inFence
	inCode
)

// What the Flags of an item's frame are made of.
const (
	loose uint8 = 1 // its list is
	blank uint8 = 2 // a blank line came
)

// itemSigns are the bytes that the Mark of an item's frame may be.
const itemSigns = "-+*.)"

// What numbers of a state are bounded by.
const (
	leastCol   = 2
	mostCol    = 17
	leastFence = 3
	mostFlags  = 3
)

// counted is the state that s counts as.
func counted(s api.State) api.State {
	if !isMarkdown(s) {
		return api.State{}
	}
	return s
}

// isMarkdown tells whether s is a state of Markdown: whether it is the same as one that is laid anew of what such a state may have.
func isMarkdown(s api.State) bool {
	if s.Depth < 0 || s.Depth > api.MaxStack || !isBlock(s) {
		return false
	}
	own := api.State{Depth: s.Depth, Mode: s.Mode, Mark: s.Mark, Flags: s.Flags, Count: s.Count}
	for i, f := range s.Stack[:s.Depth] {
		if !isLevel(f) {
			return false
		}
		own.Stack[i] = f
	}
	return s == own
}

// isBlock tells whether s may be so as to the block that is open within the last frame.
func isBlock(s api.State) bool {
	switch s.Mode {
	case noBlock, inPara, inCode:
		return s.Mark == 0 && s.Flags == 0 && s.Count == 0
	case inFence:
		return (s.Mark == '~' || s.Mark == '`') && s.Flags <= mostFlags && s.Count >= leastFence && s.Count <= api.MaxText
	}
	return false
}

// isLevel tells whether f may be one of the frames.
func isLevel(f api.Frame) bool {
	if f.Kind == api.MdItem {
		return strings.IndexByte(itemSigns, f.Mark) >= 0 && f.Flags <= mostFlags && f.Col >= leastCol && f.Col <= mostCol
	}
	return f == api.Frame{Kind: api.MdQuote}
}
