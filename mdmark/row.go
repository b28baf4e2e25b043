package mdmark

import (
	"slices"
	"strings"
)

// row is how many bytes s begins with that belong to a row.
func row[T ~string | ~[]byte](s T, belongs func(byte) bool) int {
	for i := range len(s) {
		if !belongs(s[i]) {
			return i
		}
	}
	return len(s)
}

// same tells of bytes whether they are c.
func same(c byte) func(byte) bool {
	return func(other byte) bool { return other == c }
}

// isBlank tells whether c is a blank.
func isBlank(c byte) bool { return c == ' ' || c == '\t' }

// isParted tells whether own ends at at, or a blank stands there.
func isParted(own string, at int) bool {
	return at == len(own) || isBlank(own[at])
}

// rest is what line has from at on, ahead of its end; nothing, if at is no place ahead of that.
func rest(line string, at int) string {
	own, _, has := strings.Cut(line, "\n")
	if has {
		own = strings.TrimSuffix(own, "\r")
	}
	if at < 0 || at >= len(own) {
		return ""
	}
	return own[at:]
}

// last is the place behind the last byte of own from at on that is no blank; at, if there is none.
func last(own string, at int) int {
	return at + len(strings.TrimRight(own[at:], " \t"))
}

// content is from where to where the content goes of a heading, which ends with a byte that is no blank, or at to, where its content begins, if it has one.
func content(head string, to int) (int, int) {
	from := to + row(head[to:], isBlank)
	end := last(head[:closed(head)], to)
	// Where there was nothing but blanks and the row behind them, it would end ahead of where it begins.
	if end <= from {
		return to, to
	}
	return from, end
}

// closed is where the row of # begins with which head ends behind a blank; its end, if it ends with none.
func closed(head string) int {
	turned := []byte(head)
	slices.Reverse(turned)
	begin := len(head) - row(turned, same('#'))
	if begin > 0 && isBlank(head[begin-1]) {
		return begin
	}
	return len(head)
}
