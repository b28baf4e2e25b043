package mdlabel_test

import (
	"regexp"
	"strings"
	"testing"

	"indenture/mdlabel"
)

// What may stand at a place, as patterns that are held against what is left of the part.
var (
	labels = regexp.MustCompile(`(?s)^\[((?:[^\[\]\\]|\\.)*)\]`)
	dests  = regexp.MustCompile(`(?s)^(?:<(?:[^<>\\]|\\.)*>|[^\x00-\x20\x7f<][^\x00-\x20\x7f]*)`)
	titles = regexp.MustCompile(`(?s)^(?:"(?:[^"\\]|\\.)*"|'(?:[^'\\]|\\.)*'|\((?:[^()\\]|\\.)*\))`)
	blanks = regexp.MustCompile(`^[ \t]*`)
	inner  = regexp.MustCompile(`[ \t]+`)
	upper  = regexp.MustCompile(`[A-Z]`)
	// After a label, a colon, and blanks: what a line must have.
	rests = regexp.MustCompile(`(?s)^(<(?:[^<>\\]|\\.)*>|[^\x00-\x20\x7f<][^\x00-\x20\x7f]*)(?:[ \t]+("(?:[^"\\]|\\.)*"|'(?:[^'\\]|\\.)*'|\((?:[^()\\]|\\.)*\)))?[ \t]*\z`)
)

// ended is a line without its end, and what is behind that.
func ended(line string) string {
	k := strings.IndexByte(line, 10)
	switch {
	case k < 0:
		return line
	case k > 0 && line[k-1] == 13:
		return line[:k-1]
	}
	return line[:k]
}

// part is what a line has from at on, and ahead of end; false, if there is nothing.
func part(line string, at, end int) (string, bool) {
	line = ended(line)
	end = min(end, len(line))
	if at < 0 || at >= end {
		return "", false
	}
	return line[at:end], true
}

// folded is a folded form, by patterns.
func folded(bytes string) string {
	s := strings.Trim(inner.ReplaceAllString(bytes, " "), " ")
	return upper.ReplaceAllStringFunc(s, strings.ToLower)
}

// isLabel tells whether the bytes may stand between the brackets of a label.
func isLabel(bytes string) bool {
	return len(bytes) <= 200 && folded(bytes) != ""
}

// readLabel is what Read tells, by patterns.
func readLabel(line string, at, end int) (int, bool) {
	s, _ := part(line, at, end)
	if m := labels.FindStringSubmatch(s); m != nil && isLabel(m[1]) {
		return at + len(m[0]), true
	}
	return 0, false
}

// find is what a pattern finds of a part.
func find(pattern *regexp.Regexp) func(string, int, int) (int, bool) {
	return func(line string, at, end int) (int, bool) {
		s, _ := part(line, at, end)
		if m := pattern.FindString(s); m != "" {
			return at + len(m), true
		}
		return 0, false
	}
}

// skipped is what Skip tells, by a pattern.
func skipped(line string, at, end int) int {
	s, is := part(line, at, end)
	if !is {
		return at
	}
	return at + len(blanks.FindString(s))
}

// defined is what Def tells, by patterns.
func defined(line string, at int) (string, int, bool) {
	s, _ := part(line, at, len(line))
	m := labels.FindStringSubmatch(s)
	if m == nil || !isLabel(m[1]) || !strings.HasPrefix(s[len(m[0]):], ":") {
		return "", 0, false
	}
	from := len(m[0]) + 1
	from += len(blanks.FindString(s[from:]))
	rest := rests.FindStringSubmatchIndex(s[from:])
	if rest == nil {
		return "", 0, false
	}
	return folded(m[1]), at + from + max(rest[3], rest[5]), true
}

// holdModel holds all that is told of a line, from a place, up to an end, against what is by the words alone.
func holdModel(t *testing.T, line string, at, end int) {
	t.Helper()
	for _, x := range []struct {
		of   reading
		want func(string, int, int) (int, bool)
	}{{label, readLabel}, {dest, find(dests)}, {title, find(titles)}} {
		to, is := x.of.of(line, at, end)
		if want, yes := x.want(line, at, end); to != want || is != yes {
			t.Fatalf("%s(%q, %d, %d) = %d, %v, not %d, %v", x.of.name, line, at, end, to, is, want, yes)
		}
	}
	if k, want := mdlabel.Skip(line, at, end), skipped(line, at, end); k != want {
		t.Fatalf("Skip(%q, %d, %d) = %d, not %d", line, at, end, k, want)
	}
}

// holdDefModel holds what Def tells against what is by the words alone.
func holdDefModel(t *testing.T, line string, at int) bool {
	t.Helper()
	name, to, is := mdlabel.Def(line, at)
	if now, want, yes := defined(line, at); name != now || to != want || is != yes {
		t.Fatalf("Def(%q, %d) = %q, %d, %v, not %q, %d, %v", line, at, name, to, is, now, want, yes)
	}
	return is
}
