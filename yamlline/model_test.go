package yamlline_test

import (
	"regexp"
	"strings"

	"indenture/api"
	"indenture/yamlline"
)

// What may stand at a place, as patterns that are held against what is left of the line, without its end.
var (
	mark    = regexp.MustCompile(`^(?:---|\.\.\.)(?:[ \t]|\z)`)
	dash    = regexp.MustCompile(`^-(?:[ \t]|\z)`)
	head    = regexp.MustCompile(`^([|>](?:[+-]?([1-9])?|([1-9])[+-]))(?:[ \t]*\z|[ \t]+#)`)
	single  = regexp.MustCompile(`^('(?:[^']|'')*')(?:[^']|\z)`)
	double  = regexp.MustCompile(`(?s)^("(?:[^"\\]|\\.)*")`)
	behind  = regexp.MustCompile(`^(?:([ \t]*):(?:[ \t]|\z)|[ \t]*\z|[ \t]+#)`)
	colon   = regexp.MustCompile(`^:(?:[ \t]|\z)`)
	scalar  = regexp.MustCompile(`(?s)^(.+?)(?:([ \t]*):(?:[ \t]|\z)|[ \t]+#|[ \t]*\z)`)
	trailed = regexp.MustCompile(`[ \t]+\z`)
)

// ended is a line without its end, and what is behind that.
func ended(line string) string {
	k := strings.IndexByte(line, 10)
	switch {
	case k < 0:
		return line
	case k > 0 && line[k-1] == 13:
		return line[:k-1]
	}
	return line[:k]
}

// skipped is what Skip tells, byte by byte.
func skipped(line string, at int) int {
	line = ended(line)
	if at < 0 || at > len(line) {
		return len(line)
	}
	for at < len(line) && (line[at] == 32 || line[at] == 9) {
		at++
	}
	return at
}

// read is what Read tells, by the words alone.
func read(line string, at int) yamlline.Part {
	line = ended(line)
	if at < 0 || at >= len(line) || line[at] == 32 || line[at] == 9 {
		return yamlline.Part{}
	}
	s := line[at:]
	switch {
	case at == 0 && mark.MatchString(s):
		return yamlline.Part{Kind: api.YamlMark, To: 3}
	case s[0] == '#':
		return yamlline.Part{Kind: api.YamlComment, To: len(line)}
	case dash.MatchString(s):
		return yamlline.Part{Kind: api.YamlDash, To: at + 1}
	case s[0] == '\'':
		return readQuoted(line, at, single.FindStringSubmatch(s))
	case s[0] == '"':
		return readQuoted(line, at, double.FindStringSubmatch(s))
	}
	if m := head.FindStringSubmatch(s); m != nil {
		count := 0
		if digit := m[2] + m[3]; digit != "" {
			count = int(digit[0]) - 48
		}
		return yamlline.Part{Kind: api.YamlHead, To: at + len(m[1]), Count: count}
	}
	if colon.MatchString(s) {
		return wrong(line)
	}
	m := scalar.FindStringSubmatchIndex(s)
	if m[4] < 0 {
		return yamlline.Part{Kind: api.YamlPlain, To: at + m[3]}
	}
	return yamlline.Part{Kind: api.YamlKey, To: at + m[3], Colon: at + m[5]}
}

// readQuoted is what a quote at at begins, if m is what was found of it.
func readQuoted(line string, at int, m []string) yamlline.Part {
	if m == nil {
		return wrong(line)
	}
	end := at + len(m[1])
	next := behind.FindStringSubmatchIndex(line[end:])
	switch {
	case next == nil:
		return wrong(line)
	case next[2] < 0:
		return yamlline.Part{Kind: api.YamlQuoted, To: end}
	}
	return yamlline.Part{Kind: api.YamlKey, To: end, Colon: end + next[3]}
}

// wrong is an error up to the last byte that is no blank.
func wrong(line string) yamlline.Part {
	return yamlline.Part{Kind: api.KindError, To: len(trailed.ReplaceAllString(line, ""))}
}
