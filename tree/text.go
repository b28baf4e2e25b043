package tree

import (
	"iter"
	"strconv"

	"indenture/api"
)

// The greatest numbers that a tree's text may have.
const (
	most     = 1 << 40
	mostKind = 1<<8 - 1
)

// What a line of a tree's text tells of a node, in order.
const (
	depthColumn = iota
	kindColumn
	fromColumn
	toColumn
	columns // how many that are
)

// reader reads a tree's text from at on; broken tells that it came to something that has not the form.
type reader struct {
	text   string
	at     int
	broken bool
}

// Print is a tree's text: a line a node.
func Print(l []api.Node) (string, api.Errno) {
	if err := check(l); err != api.OK {
		return "", err
	}
	var text []byte
	for _, x := range l {
		for column, number := range [columns]int{depthColumn: x.Depth, kindColumn: int(x.Kind), fromColumn: x.From, toColumn: x.To} {
			text = strconv.AppendInt(text, int64(number), 10)
			text = append(text, behind(column))
		}
	}
	return string(text), api.OK
}

// Parse is the tree that a text tells; ErrForm, if it has not the form of a tree's text, ErrTree, if what it tells is no tree.
func Parse(s string) ([]api.Node, api.Errno) {
	r := reader{text: s}
	var l []api.Node
	var x api.Node
	for column, number := range r.numbers() {
		switch column {
		case depthColumn:
			x.Depth = number
		case kindColumn:
			x.Kind = uint8(number)
		case fromColumn:
			x.From = number
		case toColumn:
			x.To = number
			l = append(l, x)
		}
	}
	if r.broken {
		return nil, api.ErrForm
	}
	if err := check(l); err != api.OK {
		return nil, err
	}
	return l, api.OK
}

// numbers goes over the text's numbers, each with its place in its line, as long as the text has the form.
func (r *reader) numbers() iter.Seq2[int, int] {
	return func(yield func(int, int) bool) {
		// A line that has begun goes on though the text ends.
		for column := 0; column > 0 || r.at < len(r.text); column = (column + 1) % columns {
			limit := most
			if column == kindColumn {
				limit = mostKind
			}
			number := r.number(limit, behind(column))
			if r.broken || !yield(column, number) {
				return
			}
		}
	}
}

// number is the next number; the text is broken, if there is none that is at most limit, with the byte end behind it.
func (r *reader) number(limit int, end byte) int {
	number, first := 0, r.at
	for r.at < len(r.text) && '0' <= r.text[r.at] && r.text[r.at] <= '9' {
		number = number*10 + int(r.text[r.at]-'0')
		r.at++
		// Nothing that is greater is read to its end: it would go round.
		if number > limit {
			r.broken = true
			return 0
		}
	}
	digits := r.text[first:r.at]
	if digits == "" || len(digits) > 1 && digits[0] == '0' || r.at == len(r.text) || r.text[r.at] != end {
		r.broken = true
		return 0
	}
	r.at++
	return number
}

// behind is the byte that stands behind a line's number.
func behind(column int) byte {
	if column == toColumn {
		return '\n'
	}
	return ' '
}
