package mdlink

import (
	"slices"
	"strings"

	"indenture/mdcode"
	"indenture/mdlabel"
)

// targets reads the targets of a line, from its front on.
type targets struct {
	own string // what it has ahead of its end, and of the part's
	// Parentheses, rising, behind which no goal stands: within it another one would open, and never close. Without them a line of many such would be gone over from each of them to its end.
	lost []int
}

// target is the place behind the target that stands at at; false, if none does.
func (t *targets) target(at int) (int, bool) {
	if !strings.HasPrefix(t.own[at:], "(") {
		return 0, false
	}
	// A goal or a title that does not stand has no bytes.
	to := t.goal(t.skip(at + 1))
	if at = t.skip(to); at > to {
		n, _ := mdlabel.Title(t.own[at:], 0, len(t.own)-at)
		at = t.skip(at + n)
	}
	if !strings.HasPrefix(t.own[at:], ")") {
		return 0, false
	}
	return at + 1, true
}

// skip is the first place from at on at which no blank stands.
func (t *targets) skip(at int) int {
	return len(t.own) - len(strings.TrimLeft(t.own[at:], " \t"))
}

// goal is the place behind the goal that stands at at; at, if none does.
func (t *targets) goal(at int) int {
	if strings.HasPrefix(t.own[at:], "<") {
		n, _ := mdlabel.Dest(t.own[at:], 0, len(t.own)-at)
		return at + n
	}
	if _, is := slices.BinarySearch(t.lost, at-1); is {
		return at
	}
	to, open := t.bare(at)
	if n := len(open.items); n > 0 {
		// Behind the last one of them there may be a goal.
		t.lost = open.items[:n-1]
		return at
	}
	return to
}

// bare is the place up to which the bytes of a goal go that stands at at, and the places of the parentheses that open in it, and do not close.
func (t *targets) bare(at int) (int, stack[int]) {
	var open stack[int]
	for at < len(t.own) {
		n := 1
		switch c := t.own[at]; {
		case c <= ' ' || c == 127:
			return at, open
		case c == '\\':
			// It takes a mark along.
			_, n = mdcode.Read(t.own[at:], 0, len(t.own)-at)
		case c == '(':
			open.push(at)
		case c == ')':
			if _, is := open.pop(); !is {
				return at, open
			}
		}
		at += n
	}
	return at, open
}
