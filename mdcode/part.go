package mdcode

import (
	"strings"

	"indenture/api"
)

// leastSpaces is how many bytes 32 make a break, at the least.
const leastSpaces = 2

// part is what a line has ahead of end, which is one of its places. Where a place is told, none of the line's LFs stands ahead of it.
type part struct {
	line string
	end  int
}

// isEnd tells whether the line's end begins at at.
func (p part) isEnd(at int) bool {
	rest := p.line[at:]
	return rest == "" || strings.HasPrefix(rest, "\n") || strings.HasPrefix(rest, "\r\n")
}

// behind is the place behind the bytes from at on that are as they must be.
func (p part) behind(at int, is func(byte) bool) int {
	return at + row(p.line[at:p.end], is)
}

// read is the kind of what stands at at, and the place behind it; 0, and the place from which it is read on, if nothing does.
func (p part) read(at int) (uint8, int) {
	switch p.line[at] {
	case '\\':
		return p.escape(at)
	case ' ':
		return p.spaces(at)
	case '`':
		return p.code(at)
	case '<':
		return p.auto(at)
	case '&':
		return p.entity(at)
	}
	return 0, at + 1
}

// escape reads a backslash.
func (p part) escape(at int) (uint8, int) {
	next := at + 1
	switch {
	case p.isEnd(next):
		return api.MdBreak, next
	case next < p.end && isMark(p.line[next]):
		return api.MdEscape, next + 1
	}
	return 0, next
}

// spaces reads a row of bytes 32.
func (p part) spaces(at int) (uint8, int) {
	to := p.behind(at, isSpace)
	if to-at >= leastSpaces && to < len(p.line) && p.isEnd(to) {
		return api.MdBreak, to
	}
	return 0, at + 1
}

// code reads a row of accents, and what is code, if as many end it.
func (p part) code(at int) (uint8, int) {
	from := p.behind(at, isAccent)
	for to := from; ; {
		next := strings.IndexAny(p.line[to:p.end], "`\n")
		if next < 0 || p.line[to+next] == '\n' {
			return 0, from
		}
		other := to + next
		to = p.behind(other, isAccent)
		if to-other == from-at {
			return api.MdSpan, to
		}
	}
}

// auto reads a link that is its own text.
func (p part) auto(at int) (uint8, int) {
	text := p.line[at+1 : p.end]
	for _, address := range [...]func(string) int{web, mail} {
		if n := address(text); n > 0 && strings.HasPrefix(text[n:], ">") {
			return api.MdAuto, at + len("<") + n + len(">")
		}
	}
	return 0, at + 1
}

// entity reads a character's name.
func (p part) entity(at int) (uint8, int) {
	text := p.line[at+1 : p.end]
	if n := name(text); n > 0 && strings.HasPrefix(text[n:], ";") {
		return api.MdEntity, at + len("&") + n + len(";")
	}
	return 0, at + 1
}
