package mdcode_test

import (
	"regexp"
	"strings"
	"testing"

	"indenture/api"
	"indenture/mdcode"
)

// What may stand at a place, as patterns that are held against what is left of the part.
var (
	escapes  = regexp.MustCompile("^\\\\[!-/:-@\\[-`{-~]")
	spaces   = regexp.MustCompile(`^ {2,}\z`)
	accents  = regexp.MustCompile("`+")
	webs     = regexp.MustCompile(`^<[A-Za-z][A-Za-z0-9+.-]{1,31}:[^\x00-\x20<>\x7f]*>`)
	mails    = regexp.MustCompile("^<[A-Za-z0-9.!#$%&'*+/=?^_{|}~`-]+@" + host + `(?:\.` + host + `)*>`)
	entities = regexp.MustCompile(`^&(?:amp|lt|gt|quot|nbsp|copy|reg|hellip|mdash|ndash|#[0-9]{1,7}|#[xX][0-9A-Fa-f]{1,6});`)
)

const host = `[A-Za-z0-9](?:[A-Za-z0-9-]{0,61}[A-Za-z0-9])?`

// ended is a line without its end, and what is behind that.
func ended(line string) string {
	k := strings.IndexByte(line, 10)
	switch {
	case k < 0:
		return line
	case k > 0 && line[k-1] == 13:
		return line[:k-1]
	}
	return line[:k]
}

// read is what Read tells, by the words alone.
func read(line string, at, end int) (uint8, int) {
	own := ended(line)
	last := end >= len(own)
	end = min(end, len(own))
	if at < 0 || at >= end {
		return 0, 0
	}
	s := own[at:end]
	row := accents.FindString(s)
	switch {
	case s == `\` && last:
		return api.MdBreak, at + 1
	case escapes.MatchString(s):
		return api.MdEscape, at + 2
	case last && len(own) < len(line) && spaces.MatchString(s):
		return api.MdBreak, len(own)
	case s[0] == '`':
		for _, x := range accents.FindAllStringIndex(s, -1)[1:] {
			if x[1]-x[0] == len(row) {
				return api.MdSpan, at + x[1]
			}
		}
		return 0, at + len(row)
	case webs.MatchString(s):
		return api.MdAuto, at + len(webs.FindString(s))
	case mails.MatchString(s):
		return api.MdAuto, at + len(mails.FindString(s))
	case entities.MatchString(s):
		return api.MdEntity, at + len(entities.FindString(s))
	}
	return 0, at + 1
}

// spans are what Spans tells, by what Read tells.
func spans(line string, from, end int) []api.Event {
	var ev []api.Event
	for {
		kind, to := mdcode.Read(line, from, end)
		if to == 0 {
			return ev
		}
		if kind != 0 {
			ev = append(ev, leaf(kind, from, to))
		}
		from = to
	}
}

// leaf is the event of a leaf.
func leaf(kind uint8, from, to int) api.Event {
	return api.Event{Op: api.OpLeaf, Kind: kind, At: from, To: to}
}

// holdModel holds what stands at a place of a part against what does by the words alone; answered is its kind.
func holdModel(t *testing.T, line string, at, end int) uint8 {
	t.Helper()
	kind, to := mdcode.Read(line, at, end)
	if wantKind, want := read(line, at, end); kind != wantKind || to != want {
		t.Fatalf("Read(%.200q, %d, %d) = %s, %d, not %s, %d", line, at, end, words[kind], to, words[wantKind], want)
	}
	return kind
}
