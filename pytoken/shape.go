package pytoken

import "strings"

// quotes are what a text begins and ends with, by what is open with it. Three of a kind stand ahead of one alone: where three stand, one does too.
var quotes = [...]string{1: `'''`, 2: `"""`, 3: `'`, 4: `"`}

// mostPrefix is how many bytes a prefix has at most.
const mostPrefix = 2

// The operators of three bytes, of two and of one, put together.
const (
	threes = "**=//=>>=<<=..."
	twos   = "**//>><<<=>===!=->+=-=*=/=%=&=|=^=@=:="
	ones   = "+-*/%@&|^~<>()[]{},:.;="
)

// opening is how many bytes a prefix and its quotes have with which s begins, and what is open behind them; 0 and 0, if no text begins there.
func opening(s string) (int, byte) {
	n := 0
	for n < len(s) && n < mostPrefix && s[n] != '\'' && s[n] != '"' {
		n++
	}
	for mark, quote := range quotes {
		if mark > 0 && strings.HasPrefix(s[n:], quote) && isPrefix(s[:n]) {
			return n + len(quote), byte(mark)
		}
	}
	return 0, 0
}

// isPrefix tells whether s may stand ahead of a text's quotes.
func isPrefix(s string) bool {
	switch strings.ToLower(s) {
	case "", "r", "u", "b", "f", "br", "rb", "fr", "rf":
		return true
	}
	return false
}

// textEnd goes on from a place within a text that ends with quote: the place behind that, and true; else how many bytes line has, and whether the last backslash took the line's end along.
func textEnd(line string, from int, quote string) (to int, ends, joins bool) {
	at := from
	for ; at < len(line); at++ {
		if line[at] == '\\' {
			at++
		} else if strings.HasPrefix(line[at:], quote) {
			return at + len(quote), true, false
		}
	}
	return len(line), false, at > len(line)
}

// numeral is how many bytes the number has that s begins with; 0, if it begins with none.
func numeral(s string) int {
	if digits := strings.TrimPrefix(s, "."); digits == "" || !isDigit(digits[0]) {
		return 0
	}
	// Behind one of these an e begins no exponent, so that a sign there is an operator.
	signs := len(s) > 1 && strings.IndexByte("xXbBoO", s[1]) < 0
	n := 1
	for ; n < len(s); n++ {
		c, last := s[n], s[n-1]
		isSign := signs && (c == '+' || c == '-') && (last == 'e' || last == 'E')
		if !isSign && !isLetter(c) && !isDigit(c) && c != '_' && c != '.' {
			break
		}
	}
	return n
}

// operates is how many bytes the longest operator has that s begins with; 0, if it begins with none.
func operates(s string) int {
	switch {
	case begins(s, threes, 3):
		return 3
	case begins(s, twos, 2):
		return 2
	case begins(s, ones, 1):
		return 1
	}
	return 0
}

// begins tells whether s begins with one of the pieces of n bytes into which all is cut.
func begins(s, all string, n int) bool {
	if len(s) < n {
		return false
	}
	for ; all != ""; all = all[n:] {
		// Most pieces differ in their first byte, and to hold that alone costs far less.
		if s[0] == all[0] && s[:n] == all[:n] {
			return true
		}
	}
	return false
}

// isNamed tells whether c may stand in a name.
func isNamed(c byte) bool {
	return isLetter(c) || isDigit(c) || c == '_' || c >= 128
}

// isLetter tells whether c is one of the letters without marks.
func isLetter(c byte) bool {
	return c >= 'a' && c <= 'z' || c >= 'A' && c <= 'Z'
}

// isDigit tells whether c is a digit.
func isDigit(c byte) bool {
	return c >= '0' && c <= '9'
}
