package yamlline_test

import (
	"strings"
	"testing"

	"indenture/api"
	"indenture/yamlline"
)

// pieces are what lines are made of.
var pieces = []string{
	" ", " ", " ", "\t", "  ", ":", ":", ": ", "#", " #", "-", "- ", "---", "...", "|", ">", "1", "2-", "+", "0", "'", "'", "''", `"`, `"`, `\`, `\"`, "a", "b c", "[", "{", "&", "*", "!", "%", "@", "`", "?", ",", "\r", "\f", "\x00", "\x80", "\xff", "\xc3\xa9",
}

// turn goes on to the next number of a row that looks unordered, and answers one from 0 to n - 1.
func turn(seed *uint64, n int) int {
	*seed = *seed*6364136223846793005 + 1442695040888963407
	return int(*seed >> 33 % uint64(n))
}

// anyBytes are at most n bytes, whatever they are, but none of not.
func anyBytes(seed *uint64, n int, not string) string {
	var b strings.Builder
	for range turn(seed, n+1) {
		if c := byte(turn(seed, 256)); strings.IndexByte(not, c) < 0 {
			b.WriteByte(c)
		}
	}
	return b.String()
}

// anyLine is a line of whatever bytes, or of pieces that mean something.
func anyLine(seed *uint64) string {
	end := ends[turn(seed, len(ends))]
	if turn(seed, 4) == 0 {
		return anyBytes(seed, 12, "") + end
	}
	var b strings.Builder
	for range turn(seed, 12) {
		b.WriteString(pieces[turn(seed, len(pieces))])
	}
	return b.String() + end
}

// lines are all lines of at most n of the bytes of letters.
func lines(letters string, n int) []string {
	all := []string{""}
	for from := 0; n > 0; n-- {
		to := len(all)
		for _, l := range all[from:to] {
			for i := range len(letters) {
				all = append(all, l+letters[i:i+1])
			}
		}
		from = to
	}
	return all
}

// isBlank tells whether c is a blank.
func isBlank(c byte) bool {
	return c == 32 || c == 9
}

// holdForm holds that a part has the form that every one has: bytes, no blank at its ends, all of them ahead of the line's end, and no field that its kind gives no meaning.
func holdForm(t *testing.T, line string, at int) {
	t.Helper()
	own, p := ended(line), yamlline.Read(line, at)
	fail := func(why string) {
		t.Helper()
		t.Fatalf("Read(%q, %d) = %v: %s", line, at, p, why)
	}
	if p.Kind == 0 {
		if at >= 0 && at < len(own) && !isBlank(own[at]) || p != none {
			fail("nothing stands there")
		}
		return
	}
	if p.To <= at || p.To > len(own) {
		fail("no bytes, or bytes behind the line's end")
	}
	if isBlank(own[at]) || isBlank(own[p.To-1]) && p.Kind != api.YamlComment {
		fail("a blank at its ends")
	}
	switch p.Kind {
	case api.YamlKey:
		if p.Colon < p.To || p.Colon >= len(own) || own[p.Colon] != ':' || strings.Trim(own[p.To:p.Colon], " \t") != "" {
			fail("no colon")
		}
	case api.YamlMark, api.YamlComment, api.YamlDash, api.YamlHead, api.YamlQuoted, api.YamlPlain, api.KindError:
		if p.Colon != 0 {
			fail("a colon")
		}
	default:
		fail("no such kind")
	}
	if p.Count < 0 || p.Count > 9 || p.Count > 0 && p.Kind != api.YamlHead {
		fail("a count")
	}
}

// holdLine holds all that is told of a line, at every place, and some that are none.
func holdLine(t *testing.T, line string) {
	t.Helper()
	for at := -1; at <= len(line)+1; at++ {
		holdForm(t, line, at)
		if p, want := yamlline.Read(line, at), read(line, at); p != want {
			t.Fatalf("Read(%q, %d) = %v, not %v", line, at, p, want)
		}
		if k, want := yamlline.Skip(line, at), skipped(line, at); k != want {
			t.Fatalf("Skip(%q, %d) = %d, not %d", line, at, k, want)
		}
	}
}

// P13.1 to P13.3: whatever the line, at every place.
func TestAnyLine(t *testing.T) {
	seed := uint64(13)
	told := map[uint8]int{}
	for range 60000 {
		line := anyLine(&seed)
		holdLine(t, line)
		for at := range len(line) {
			told[yamlline.Read(line, at).Kind]++
		}
	}
	for _, kind := range []uint8{0, api.KindError, api.YamlKey, api.YamlDash, api.YamlPlain, api.YamlQuoted, api.YamlHead, api.YamlComment, api.YamlMark} {
		if told[kind] < 300 {
			t.Errorf("the kind %d is read %d times: the lines try too little", kind, told[kind])
		}
	}
}

// P13.1 to P13.3: all lines of few bytes of those that mean something.
func TestShortLines(t *testing.T) {
	for _, x := range []struct {
		letters string
		n       int
	}{
		{" \t:#-'\"\\|>.1+a\r\n", 4},
		{" :#'a", 7},
		{" :#\"\\a", 6},
		{" #|2-x", 6},
		{"-. a:", 6},
	} {
		for _, line := range lines(x.letters, x.n) {
			holdLine(t, line)
		}
	}
}

// P13.1, P13.2: every byte, as the first one, the last one, and one that parts.
func TestEveryByte(t *testing.T) {
	for c := range 256 {
		b := string([]byte{byte(c)})
		for _, x := range []string{"%", "%a", "a%", "a%b", "% ", " %", "a:%", "a :%b", "a%#b", "a%: b", "-%", "- %", "---%", "...%a", "|%", "|1%", "|-%", "| %", "'%'", "'a'%", "'a' %", "'a':%", "'%", `"%"`, `"\%"`, `"a"%`, `"%`, "#%", "%:", "%: a"} {
			holdLine(t, strings.ReplaceAll(x, "%", b))
		}
	}
}

// writings are the two ways of writing a text in quotes.
var writings = []func(string) string{
	func(text string) string { return "'" + strings.ReplaceAll(text, "'", "''") + "'" },
	func(text string) string {
		return `"` + strings.NewReplacer(`\`, `\\`, `"`, `\"`).Replace(text) + `"`
	},
}

// holdText holds that a text in quotes is read as one, as a scalar and as a key, wherever it stands and whatever is behind.
func holdText(t *testing.T, text string) {
	t.Helper()
	for _, write := range writings {
		for _, ahead := range []string{"", "  ", "k: ", "- '", `"`} {
			line, at := ahead+write(text), len(ahead)
			for _, behind := range []string{"", " ", "\n", "\r\n", " # '", "\t#\"\n"} {
				if p, want := yamlline.Read(line+behind, at), quotedTo(len(line)); p != want {
					t.Fatalf("Read(%q, %d) = %v, not %v", line+behind, at, p, want)
				}
			}
			for _, behind := range []string{": ", " : x", ":", "\t:\n", ": '\"\r\n"} {
				want := key(len(line), len(line)+strings.IndexByte(behind, ':'))
				if p := yamlline.Read(line+behind, at); p != want {
					t.Fatalf("Read(%q, %d) = %v, not %v", line+behind, at, p, want)
				}
			}
		}
	}
}

// P13.4: texts of whatever bytes but LF, in both kinds of quotes.
func TestAnyText(t *testing.T) {
	seed := uint64(4)
	for range 20000 {
		holdText(t, anyBytes(&seed, 20, "\n"))
	}
	for _, text := range lines(`'"\ :#`, 5) {
		holdText(t, text)
	}
	for c := range 256 {
		if c != 10 {
			b := string([]byte{byte(c)})
			holdText(t, b)
			holdText(t, b+b)
		}
	}
	holdText(t, strings.Repeat(`'"\`, 50000))
}

// R1: a line of more than MaxText bytes is read, too, at its beginning and far behind that.
func TestLongLines(t *testing.T) {
	const n = api.MaxText + 9
	for _, piece := range []string{" ", "a", ":", ": ", "#", "'", `"`, `\`, `"\`, "-", "- ", "|", "1", "\r", "\n", "\xff", "a:"} {
		line := strings.Repeat(piece, n/len(piece))
		for _, at := range []int{0, 1, len(line) / 2, len(line) - 1, len(line), len(line) + 1} {
			holdForm(t, line, at)
			if k := yamlline.Skip(line, at); k != skipped(line, at) {
				t.Errorf("Skip of %q, very often, at %d: %d", piece, at, k)
			}
		}
	}
}
