package shword

import (
	"strings"

	"indenture/api"
)

// freed are the bytes ahead of which a backslash in " is none of what the word says.
const freed = "\\\"$`"

// reader reads a line.
type reader struct {
	line   string
	end    int // where its content ends
	at     int
	mark   byte // the sign of the quote that is open behind the line
	pieces []Piece
}

// text is what a word says.
type text []byte

// say adds a byte.
func (t *text) say(c byte) { *t = append(*t, c) }

// next takes a blank, or a piece.
func (r *reader) next() {
	op := Op(r.line, r.at)
	switch {
	case r.isBlank():
		r.at++
	case r.line[r.at] == '#':
		r.put(api.ShComment, r.end)
	case op > 0:
		r.put(api.ShOp, r.at+op)
	case r.isJoin():
		r.put(api.ShJoin, len(r.line))
	default:
		r.word(0)
	}
}

// word takes a word, which begins within a quote, if sign is that of one.
func (r *reader) word(sign byte) {
	var t text
	from := r.at
	r.mark = r.letters(sign, t.say)
	if r.mark != 0 {
		// What is quoted goes on in the next line, so that the LF is of it, too.
		t = append(t, r.line[r.end:]...)
		r.at = len(r.line)
	}
	// The first sign or backslash of a word that does not begin within a quote stands in none, whatever those behind it do.
	raw := sign != 0 || strings.ContainsAny(r.line[from:r.at], `'"\`)
	r.pieces = append(r.pieces, Piece{Kind: api.ShWord, From: from, To: r.at, Text: string(t), Raw: raw, Whole: sign == 0 && r.mark == 0})
}

// letters goes over the content of a word, which begins within a quote, if sign is that of one; it hands on to say what the word says, and answers the sign of the quote that is open behind it.
func (r *reader) letters(sign byte, say func(byte)) byte {
	switch sign {
	case '\'':
		goto single
	case '"':
		goto double
	}
bare:
	if r.isBehind() {
		return 0
	}
	switch c := r.take(); c {
	case '\'':
		goto single
	case '"':
		goto double
	case '\\':
		say(r.along(false))
	default:
		say(c)
	}
	goto bare
single:
	if r.at == r.end {
		return '\''
	}
	if c := r.take(); c != '\'' {
		say(c)
		goto single
	}
	goto bare
double:
	if r.at == r.end {
		return '"'
	}
	switch c := r.take(); c {
	case '"':
		goto bare
	case '\\':
		say(r.along(true))
	default:
		say(c)
	}
	goto double
}

// along is what a backslash says that was taken: the byte behind it, which it takes along; or itself, where none stands there, or, in ", one with which it stays.
func (r *reader) along(quoted bool) byte {
	if r.at == r.end || quoted && strings.IndexByte(freed, r.line[r.at]) < 0 {
		return '\\'
	}
	return r.take()
}

// take takes a byte.
func (r *reader) take() byte {
	r.at++
	return r.line[r.at-1]
}

// put adds a piece of the kind, and goes on behind it.
func (r *reader) put(kind uint8, to int) {
	r.pieces = append(r.pieces, Piece{Kind: kind, From: r.at, To: to})
	r.at = to
}

// isBehind tells whether a word that is in no quote ends at the place.
func (r *reader) isBehind() bool {
	return r.at == r.end || r.isBlank() || Op(r.line, r.at) > 0 || r.isJoin()
}

// isBlank tells whether a blank stands at the place.
func (r *reader) isBlank() bool {
	return r.line[r.at] == ' ' || r.line[r.at] == '\t'
}

// isJoin tells whether a backslash and the line's LF are all that is left.
func (r *reader) isJoin() bool {
	return r.line[r.at:] == "\\\n"
}
