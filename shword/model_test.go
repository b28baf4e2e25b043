package shword_test

import (
	"regexp"
	"strings"

	"indenture/api"
	"indenture/shword"
)

// What may stand at a place outside quotes, and what a word is made of, as patterns that are held against what is left of the content.
var (
	operator = regexp.MustCompile(`^(?:<<-|&&|\|\||;;|<<|>>|<&|>&|<>|>\||[&|;<>()])`)
	single   = regexp.MustCompile(`^([^']*)'`)
	double   = regexp.MustCompile(`(?s)^((?:[^"\\]|\\.)*)"`)
	pair     = regexp.MustCompile(`(?s)^\\.`)
	others   = regexp.MustCompile(`^[^ \t&|;<>()'"\\]+`)
	freed    = regexp.MustCompile("(?s)\\\\(.)")
)

// unquoted is what a text says that stands in quotes of the sign.
func unquoted(sign byte, text string) string {
	if sign == '\'' {
		return text
	}
	return freed.ReplaceAllStringFunc(text, func(two string) string {
		if strings.Contains("\\\"$`", two[1:]) {
			return two[1:]
		}
		return two
	})
}

// inQuotes are how many bytes stand in s in quotes of the sign, those that end them among them, and what they say; and whether they end there.
func inQuotes(sign byte, s string) (int, string, bool) {
	pattern := single
	if sign == '"' {
		pattern = double
	}
	m := pattern.FindStringSubmatch(s)
	if m == nil {
		return len(s), unquoted(sign, s), false
	}
	return len(m[0]), unquoted(sign, m[1]), true
}

// wordAt is the word that stands in line from at on, in which a quote of the sign is open, if that is not 0; and the mark behind it.
func wordAt(line, own string, at int, sign byte) (shword.Piece, byte) {
	p := shword.Piece{Kind: api.ShWord, From: at, Raw: sign != 0, Whole: sign == 0}
	for {
		if sign != 0 {
			n, text, ends := inQuotes(sign, own[at:])
			at, p.Text = at+n, p.Text+text
			if !ends {
				p.To, p.Text, p.Whole = len(line), p.Text+line[len(own):], false
				return p, sign
			}
		}
		p.To, sign = at, 0
		s := own[at:]
		switch m, two := others.FindString(s), pair.FindString(s); {
		case m != "":
			at, p.Text = at+len(m), p.Text+m
		case two != "":
			at, p.Text, p.Raw = at+len(two), p.Text+two[1:], true
		case s == `\` && own == line:
			at, p.Text, p.Raw = at+1, p.Text+s, true
		case s != "" && (s[0] == '\'' || s[0] == '"'):
			at, p.Raw, sign = at+1, true, s[0]
		default:
			return p, 0
		}
	}
}

// read is what Read tells, by the words alone.
func read(line string, at int, mark byte) ([]shword.Piece, byte) {
	own := strings.TrimSuffix(line, "\n")
	if at < 0 || at > len(own) {
		return nil, 0
	}
	var l []shword.Piece
	put := func(p shword.Piece) {
		l = append(l, p)
		at = p.To
	}
	behind := byte(0)
	if mark == '\'' || mark == '"' {
		p, now := wordAt(line, own, at, mark)
		put(p)
		behind = now
	}
	for at < len(own) {
		switch s := own[at:]; {
		case s[0] == ' ' || s[0] == '\t':
			at++
		case s[0] == '#':
			put(shword.Piece{Kind: api.ShComment, From: at, To: len(own)})
		case operator.MatchString(s):
			put(shword.Piece{Kind: api.ShOp, From: at, To: at + len(operator.FindString(s))})
		case s == `\` && own != line:
			put(shword.Piece{Kind: api.ShJoin, From: at, To: len(line)})
		default:
			p, now := wordAt(line, own, at, 0)
			put(p)
			behind = now
		}
	}
	return l, behind
}
