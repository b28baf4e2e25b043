package mdmark_test

import (
	"regexp"
	"strconv"
	"strings"
	"testing"

	"indenture/mdmark"
)

// What may stand at a place, as patterns that are held against what is left of the line, without its end.
var (
	rules  = regexp.MustCompile(`^(?:(?:\*[ \t]*){3,}|(?:-[ \t]*){3,}|(?:_[ \t]*){3,})\z`)
	heads  = regexp.MustCompile(`^(#{1,6})(?:[ \t]|\z)`)
	closes = regexp.MustCompile(`(?:\A|[ \t]+)#+\z`)
	unders = regexp.MustCompile(`^(=+|-+)[ \t]*\z`)
	fences = regexp.MustCompile("^(~{3,}|`{3,})")
	items  = regexp.MustCompile(`^([0-9]{1,9}[.)]|[-+*])(?:[ \t]|\z)`)
)

// ended is a line without its end, and what is behind that.
func ended(line string) string {
	k := strings.IndexByte(line, 10)
	switch {
	case k < 0:
		return line
	case k > 0 && line[k-1] == 13:
		return line[:k-1]
	}
	return line[:k]
}

// bare is a text without the blanks at its end.
func bare(s string) string { return strings.TrimRight(s, " \t") }

// told is what a reading tells, by the words alone.
func (r reading) told(line string, at int) (mdmark.Mark, bool) {
	own := ended(line)
	if at < 0 || at >= len(own) {
		return none, false
	}
	s := own[at:]
	var m mdmark.Mark
	switch r.name {
	case "Rule":
		if !rules.MatchString(s) {
			return none, false
		}
		m = aRule(s[0], strings.Count(s, s[:1]), len(bare(s)))
	case "Head":
		found := heads.FindStringSubmatch(s)
		if found == nil {
			return none, false
		}
		m = headOf(s, len(found[1]))
	case "Under":
		found := unders.FindStringSubmatch(s)
		if found == nil {
			return none, false
		}
		m = anUnder(s[0], len(found[1]))
	case "Fence":
		row := fences.FindString(s)
		if row == "" || row[0] == '`' && strings.Count(s, "`") > len(row) {
			return none, false
		}
		m = aFence(s[0], len(row), len(row)+len(bare(s[len(row):])))
	case "Item":
		found := items.FindStringSubmatch(s)
		if found == nil {
			return none, false
		}
		mark := found[1]
		number, _ := strconv.Atoi(mark[:len(mark)-1])
		m = anItem(mark[len(mark)-1], number, len(mark), len(mark)+len(bare(s[len(mark):])))
	}
	return r.moved(m, at), true
}

// headOf is what is told of a heading of n #.
func headOf(s string, n int) mdmark.Mark {
	last := n + len(bare(s[n:]))
	from := last - len(strings.TrimLeft(s[n:last], " \t"))
	content := s[from:last]
	content = content[:len(content)-len(closes.FindString(content))]
	if content == "" {
		return aHead(n, n, n, last)
	}
	return aHead(n, from, from+len(content), last)
}

// holdModel holds what is told of a line, at a place, against what is by the words alone, and that no more than one of a kind stands there; answered is how many stand.
func holdModel(t *testing.T, line string, at int) int {
	t.Helper()
	var marks [5]mdmark.Mark
	var is [5]bool
	n := 0
	for i, r := range all {
		marks[i], is[i] = r.of(line, at)
		if m, yes := r.told(line, at); marks[i] != m || is[i] != yes {
			t.Fatalf("%s(%q, %d) = %v, %v, not %v, %v", r.name, line, at, marks[i], is[i], m, yes)
		}
		if is[i] {
			n++
		}
	}
	kinds := 0
	for _, x := range []bool{is[1], is[3], is[0] || is[2] || is[4]} {
		if x {
			kinds++
		}
	}
	if kinds > 1 {
		t.Fatalf("at %d of %q stands more than one: %v", at, line, is)
	}
	if is[0] && is[2] && (marks[0].Char != '-' || marks[0].Count < 3 || marks[0].Count != marks[2].Count || marks[0].Last != marks[2].Last) {
		t.Fatalf("at %d of %q stand %v and %v", at, line, marks[0], marks[2])
	}
	if is[0] && is[4] && strings.IndexByte(" \t", line[at+1]) < 0 {
		t.Fatalf("at %d of %q stand %v and %v", at, line, marks[0], marks[4])
	}
	return n
}
