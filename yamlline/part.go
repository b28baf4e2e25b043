package yamlline

import (
	"strings"

	"indenture/api"
)

// markLen is how many bytes a mark between documents has.
const markLen = 3

// isMark tells whether line begins with a mark between documents.
func isMark(line string) bool {
	return (strings.HasPrefix(line, "---") || strings.HasPrefix(line, "...")) && isParted(line, markLen)
}

// sign is where the sign of a block scalar ends that begins at at, and its digit; 0 and 0, if what stands there is none.
func sign(line string, at int) (to, digit int) {
	signed := false
	for to = at + 1; to < len(line) && !isBlank(line[to]); to++ {
		switch c := line[to]; {
		case c >= '1' && c <= '9' && digit == 0:
			digit = int(c - '0')
		case (c == '+' || c == '-') && !signed:
			signed = true
		default:
			return 0, 0
		}
	}
	// A blank or the end stands at to, so that a # behind it has a blank ahead.
	if k := Skip(line, to); k < len(line) && line[k] != '#' {
		return 0, 0
	}
	return to, digit
}

// quoted reads what begins with a quote at at; last tells the place behind the last byte ahead of a place that is no blank.
func quoted(line string, at int, last func(int) int) Part {
	end := quoteEnd(line, at)
	if end == 0 {
		return Part{Kind: api.KindError, To: last(len(line))}
	}
	switch k := Skip(line, end); {
	case k == len(line), k > end && line[k] == '#':
		return Part{Kind: api.YamlQuoted, To: end}
	case line[k] == ':' && isParted(line, k+1):
		return Part{Kind: api.YamlKey, To: end, Colon: k}
	}
	return Part{Kind: api.KindError, To: last(len(line))}
}

// quoteEnd is the place behind the quote that ends the one at at; 0, if none does.
func quoteEnd(line string, at int) int {
	// What a quote may be within, and ends nothing, has two bytes in both kinds of quotes; pair is what it begins with.
	quote, pair := line[at], "''"
	if quote == '"' {
		pair = `\`
	}
	for i := at + 1; i < len(line); i++ {
		switch {
		case strings.HasPrefix(line[i:], pair):
			i++
		case line[i] == quote:
			return i + 1
		}
	}
	return 0
}

// plain reads a plain scalar that begins at at; last tells the place behind the last byte ahead of a place that is no blank.
func plain(line string, at int, last func(int) int) Part {
	switch end := plainEnd(line, at); {
	case end == len(line) || line[end] == '#':
		return Part{Kind: api.YamlPlain, To: last(end)}
	case end > at:
		return Part{Kind: api.YamlKey, To: last(end), Colon: end}
	}
	return Part{Kind: api.KindError, To: last(len(line))}
}

// plainEnd is the place up to which a plain scalar from at on reaches: that of a comment, of a key's colon, or the line's end.
func plainEnd(line string, at int) int {
	for i := at; i < len(line); i++ {
		switch line[i] {
		case '#':
			// At at none stands: that would be a comment. So a byte is ahead.
			if isBlank(line[i-1]) {
				return i
			}
		case ':':
			if isParted(line, i+1) {
				return i
			}
		}
	}
	return len(line)
}
