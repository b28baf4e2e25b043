package mdcode

import "strings"

// How many bytes there may be of a kind.
const (
	leastScheme  = 2
	mostScheme   = 32
	mostHost     = 63
	mostDecimals = 7
	mostHexes    = 6
)

// localSigns are what stands in an address ahead of its @, beside letters and digits.
const localSigns = ".!#$%&'*+/=?^_{|}~-`"

// row is how many bytes text begins with that are as they must be.
func row(text string, is func(byte) bool) int {
	for i := range len(text) {
		if !is(text[i]) {
			return i
		}
	}
	return len(text)
}

// wordOr tells of bytes whether they are letters, digits, or one of signs.
func wordOr(signs string) func(byte) bool {
	return func(c byte) bool { return isLetter(c) || isDigit(c) || strings.IndexByte(signs, c) >= 0 }
}

// isSpace tells whether c is a byte 32.
func isSpace(c byte) bool { return c == ' ' }

// isAccent tells whether c is an accent.
func isAccent(c byte) bool { return c == '`' }

// isLetter tells whether c is a letter.
func isLetter(c byte) bool { return c >= 'A' && c <= 'Z' || c >= 'a' && c <= 'z' }

// isDigit tells whether c is a digit.
func isDigit(c byte) bool { return c >= '0' && c <= '9' }

// isHex tells whether c is a digit to the base 16.
func isHex(c byte) bool { return isDigit(c) || c >= 'A' && c <= 'F' || c >= 'a' && c <= 'f' }

// isMark tells whether c is a mark.
func isMark(c byte) bool { return c > ' ' && c < 127 && !isLetter(c) && !isDigit(c) }

// web is how many bytes the address has, of a scheme and what is named by it, with which text begins; 0, if it begins with none.
func web(text string) int {
	scheme := row(text, wordOr("+.-"))
	if scheme < leastScheme || scheme > mostScheme || !isLetter(text[0]) || !strings.HasPrefix(text[scheme:], ":") {
		return 0
	}
	return scheme + row(text[scheme:], func(c byte) bool { return c > ' ' && c != '<' && c != '>' && c != 127 })
}

// mail is how many bytes the address of a mailbox has with which text begins; 0, if it begins with none.
func mail(text string) int {
	local := row(text, wordOr(localSigns))
	if local == 0 || !strings.HasPrefix(text[local:], "@") {
		return 0
	}
	hosts := text[local+len("@"):]
	hosts = hosts[:row(hosts, wordOr(".-"))]
	for host := range strings.SplitSeq(hosts, ".") {
		if host == "" || len(host) > mostHost || strings.HasPrefix(host, "-") || strings.HasSuffix(host, "-") {
			return 0
		}
	}
	return local + len("@") + len(hosts)
}

// name is how many bytes the name of a character has with which text begins; 0, if it begins with none.
func name(text string) int {
	switch {
	case strings.HasPrefix(text, "#x"), strings.HasPrefix(text, "#X"):
		return number(text, len("#x"), mostHexes, isHex)
	case strings.HasPrefix(text, "#"):
		return number(text, len("#"), mostDecimals, isDigit)
	}
	n := row(text, isLetter)
	switch text[:n] {
	case "amp", "lt", "gt", "quot", "nbsp", "copy", "reg", "hellip", "mdash", "ndash":
		return n
	}
	return 0
}

// number is how many bytes the number has with which text begins: as many as its sign has, and digits, at most so many; 0, if it begins with none.
func number(text string, sign, most int, is func(byte) bool) int {
	digits := row(text[sign:], is)
	if digits == 0 || digits > most {
		return 0
	}
	return sign + digits
}
