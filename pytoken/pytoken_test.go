package pytoken_test

import (
	"math"
	"slices"
	"strings"
	"testing"

	"indenture/api"
	"indenture/pytoken"
)

const most = api.MaxText

// kinds are leaves' kinds by the words that the tests tell them by.
var kinds = map[string]uint8{
	"error": api.KindError, "name": api.PyName, "number": api.PyNumber, "string": api.PyString, "part": api.PyPart,
	"op": api.PyOp, "comment": api.PyComment, "join": api.PyJoin,
}

// turn goes on to the next number of a row that looks unordered, and answers one from 0 to n - 1.
func turn(seed *uint64, n int) int {
	*seed = *seed*6364136223846793005 + 1442695040888963407
	return int(*seed >> 33 % uint64(n))
}

// mixed is a line of at most n pieces, each one of these.
func mixed(seed *uint64, n int, pieces []string) string {
	var b strings.Builder
	for range turn(seed, n+1) {
		b.WriteString(pieces[turn(seed, len(pieces))])
	}
	return b.String()
}

// lines are all lines of at most n of the bytes of letters.
func lines(letters string, n int) []string {
	all := []string{""}
	for from := 0; n > 0; n-- {
		to := len(all)
		for _, l := range all[from:to] {
			for i := range len(letters) {
				all = append(all, l+letters[i:i+1])
			}
		}
		from = to
	}
	return all
}

// same tells whether two answers are alike.
func same(a, b pytoken.Out) bool {
	return slices.Equal(a.Events, b.Events) && a.Mark == b.Mark && a.Depth == b.Depth && a.Join == b.Join && a.Some == b.Some && a.Colon == b.Colon
}

// holdOut holds one answer of Scan.
func holdOut(t *testing.T, line string, at int, mark byte, depth int, want pytoken.Out) {
	t.Helper()
	if out := pytoken.Scan(line, at, mark, depth); !same(out, want) {
		t.Errorf("Scan(%.80q, %d, %d, %d) = %v, not %v", line, at, mark, depth, out, want)
	}
}

// leaves are the events of leaves, each told by its kind and its bytes ("name x"), in the line from at on; blanks alone may stand ahead of them.
func leaves(t *testing.T, line string, at int, told []string) []api.Event {
	t.Helper()
	var l []api.Event
	for _, x := range told {
		word, own, _ := strings.Cut(x, " ")
		for at < len(line) && !strings.HasPrefix(line[at:], own) && strings.IndexByte(" \t\f\r", line[at]) >= 0 {
			at++
		}
		if kinds[word] == 0 || own == "" || !strings.HasPrefix(line[at:], own) {
			t.Fatalf("%q is no leaf of %q at %d", x, line, at)
		}
		l = append(l, api.Event{Op: api.OpLeaf, Kind: kinds[word], At: at, To: at + len(own)})
		at += len(own)
	}
	return l
}

// hold holds what Scan tells of a line, from its beginning, with mark and depth: the leaves, and all else.
func hold(t *testing.T, line string, mark byte, depth int, want pytoken.Out, told ...string) {
	t.Helper()
	want.Events = leaves(t, line, 0, told)
	holdOut(t, line, 0, mark, depth, want)
}

// plain is what a line tells that has leaves, and leaves nothing open.
var plain = pytoken.Out{Some: true}

// P11.1: the chapter's examples.
func TestExamples(t *testing.T) {
	hold(t, `x = f("a b", 1.5e-3) # c`, 0, 0, plain, "name x", "op =", "name f", "op (", `string "a b"`, "op ,", "number 1.5e-3", "op )", "comment # c")
	hold(t, "if a:", 0, 0, pytoken.Out{Some: true, Colon: true}, "name if", "name a", "op :")
	hold(t, "d = {", 0, 0, pytoken.Out{Some: true, Depth: 1}, "name d", "op =", "op {")
	hold(t, "r'''x", 0, 0, pytoken.Out{Some: true, Mark: 1}, "part r'''x")
	hold(t, "y''' + 1", 1, 0, plain, "part y'''", "op +", "number 1")
	hold(t, "'a\\\n", 0, 0, pytoken.Out{Some: true, Mark: 3}, `part 'a\`)
	hold(t, "'a", 0, 0, plain, "error 'a")
	hold(t, `) \ x \`, 0, 0, pytoken.Out{Some: true, Join: true}, "error )", `error \`, "name x", `join \`)
	hold(t, "0xE+1", 0, 0, plain, "number 0xE", "op +", "number 1")
	hold(t, "1e+5", 0, 0, plain, "number 1e+5")
	hold(t, "...", 0, 0, plain, "op ...")
	hold(t, ".5", 0, 0, plain, "number .5")
	hold(t, "a!=b", 0, 0, plain, "name a", "op !=", "name b")
	hold(t, "!", 0, 0, plain, "error !")
}

// P11.1: ordinary lines, one behind the other, what is open and the depth handed on.
func TestOrdinaryLines(t *testing.T) {
	out := pytoken.Out{}
	for _, x := range []struct {
		line string
		want pytoken.Out
		told []string
	}{
		{"from a.b import (c,\n", pytoken.Out{Some: true, Depth: 1}, []string{"name from", "name a", "op .", "name b", "name import", "op (", "name c", "op ,"}},
		{"\t# which\n", pytoken.Out{Depth: 1}, []string{"comment # which"}},
		{"\n", pytoken.Out{Depth: 1}, nil},
		{"  d as _e2)\r\n", plain, []string{"name d", "name as", "name _e2", "op )"}},
		{"@f[0x_1F, 'a':-2]\n", plain, []string{"op @", "name f", "op [", "number 0x_1F", "op ,", "string 'a'", "op :", "op -", "number 2", "op ]"}},
		{"def g(x: int = 1_000, *y, **z) -> {1: 2}:  # h\n", pytoken.Out{Some: true, Colon: true}, []string{"name def", "name g", "op (", "name x", "op :", "name int", "op =", "number 1_000", "op ,", "op *", "name y", "op ,", "op **", "name z", "op )", "op ->", "op {", "number 1", "op :", "number 2", "op }", "op :", "comment # h"}},
		{"    s = f'''{x}\n", pytoken.Out{Some: true, Mark: 1}, []string{"name s", "op =", "part f'''{x}"}},
		{"  # no ' comment \" : (\n", pytoken.Out{Some: true, Mark: 1}, []string{"part   # no ' comment \" : ("}},
		{"\n", pytoken.Out{Mark: 1}, nil},
		{"  ''' + Rb\"\\\n", pytoken.Out{Some: true, Mark: 4}, []string{"part   '''", "op +", "part Rb\"\\"}},
		{"'\\\\\\\n", pytoken.Out{Some: true, Mark: 4}, []string{"part '\\\\\\"}},
		{"x\"; \\\n", pytoken.Out{Some: true, Join: true}, []string{"part x\"", "op ;", "join \\"}},
		{"    while (i := n // 2) <= 1e3j: pass", plain, []string{"name while", "op (", "name i", "op :=", "name n", "op //", "number 2", "op )", "op <=", "number 1e3j", "op :", "name pass"}},
		{"lambda:0", plain, []string{"name lambda", "op :", "number 0"}},
	} {
		hold(t, x.line, out.Mark, out.Depth, x.want, x.told...)
		out = pytoken.Scan(x.line, 0, out.Mark, out.Depth)
	}
}

// P11.1: what is behind the line's end is not looked at, and no byte of the end is told.
func TestLineEnds(t *testing.T) {
	for _, line := range []string{"", "x", "x:", "a = (1, # c", "'''", "'''a", "'a'", "'a", `'a\`, `'''a\`, `x \`, `\`, "! ", "  ", "1.", "]", "# \r", "x\r", "'a\\\\"} {
		for mark := range byte(5) {
			want := read(line, 0, mark, 2)
			holdOut(t, line, 0, mark, 2, want)
			for _, behind := range []string{"\n", "\r\n", "\n\n", "\n'", "\nx \\", "\r\n)\r\n", "\n'''\n", "\r\n:", "\n\r"} {
				if behind[0] == '\n' && strings.HasSuffix(line, "\r") {
					continue
				}
				holdOut(t, line+behind, 0, mark, 2, want)
			}
		}
	}
	// A byte 13 belongs to the line's end right ahead of an LF alone.
	hold(t, "\r", 0, 0, pytoken.Out{})
	hold(t, "\r\r\n", 0, 0, pytoken.Out{})
	hold(t, "x\r", 0, 0, plain, "name x")
	hold(t, "x\ry\r\n", 0, 0, plain, "name x", "name y")
	hold(t, "# c\r", 0, 0, pytoken.Out{}, "comment # c\r")
	hold(t, "# c\r\r\n", 0, 0, pytoken.Out{}, "comment # c\r")
	hold(t, "\\\r", 0, 0, plain, `error \`)
	hold(t, "\\\r\r\n", 0, 0, plain, `error \`)
	hold(t, "\\\r\n", 0, 0, pytoken.Out{Join: true}, `join \`)
	hold(t, "'\\\r", 0, 0, plain, "error '\\\r")
	hold(t, "'\\\r\r\n", 0, 0, plain, "error '\\\r")
	hold(t, "'\\\r\n", 0, 0, pytoken.Out{Some: true, Mark: 3}, `part '\`)
	hold(t, "'\\\r'\n", 0, 0, plain, "string '\\\r'")
	hold(t, "'''\r", 0, 0, pytoken.Out{Some: true, Mark: 1}, "part '''\r")
	hold(t, "'''\r\n", 0, 0, pytoken.Out{Some: true, Mark: 1}, "part '''")
	hold(t, "\r", 1, 0, pytoken.Out{Some: true, Mark: 1}, "part \r")
	hold(t, "\r\n", 1, 0, pytoken.Out{Mark: 1})
}

// P11.1: reading from each place, below 0, at the line's end and behind it; what is ahead of the place is not looked at.
func TestPlaces(t *testing.T) {
	for _, line := range []string{"", "\n", "\r\n", "x", "ab + 'c' # d\r\n", "'''a''' b", "rb'x'\n)(", "1e+5 \\\n", "f(x):\n", "a := \"\\\n", "(((", "\xff\xfe = 1"} {
		end := len(ended(line))
		for mark := range byte(6) {
			for _, depth := range []int{-3, 0, 1, most + 5} {
				counts := pytoken.Out{Mark: mark % 5, Depth: min(max(depth, 0), most)}
				for _, at := range []int{end, end + 1, len(line), len(line) + 1, most, most + 1, 1 << 40, math.MaxInt - 1, math.MaxInt} {
					if at >= end {
						holdOut(t, line, at, mark, depth, counts)
					}
				}
				whole := read(line, 0, mark, depth)
				for _, at := range []int{math.MinInt, math.MinInt + 1, -1 << 40, -len(line), -2, -1, 0} {
					holdOut(t, line, at, mark, depth, whole)
				}
				for at := range end {
					want := read(line[at:], 0, mark, depth)
					for i := range want.Events {
						want.Events[i].At += at
						want.Events[i].To += at
					}
					holdOut(t, line, at, mark, depth, want)
				}
			}
		}
	}
	// A place within a prefix, a name, a number, an operator.
	for _, x := range []struct {
		line string
		at   int
		told string
	}{
		{"rb'x'", 1, "string b'x'"}, {"rb'x'", 2, "string 'x'"}, {"rb'x'", 3, "name x"}, {"abc", 1, "name bc"}, {"a12", 1, "number 12"}, {"0xE", 1, "name xE"}, {"1.5", 1, "number .5"}, {">>=", 1, "op >="}, {"''' '", 1, "string ''"},
	} {
		want := read(x.line, x.at, 0, 0)
		if first := leaves(t, x.line, x.at, []string{x.told}); want.Events[0] != first[0] {
			t.Fatalf("%q at %d begins with %v", x.line, x.at, want.Events[0])
		}
		holdOut(t, x.line, x.at, 0, 0, want)
	}
}

// P11.1: each number of what is open, and all those that are none.
func TestMarks(t *testing.T) {
	for mark := range 256 {
		for _, line := range []string{"", "\n", "x", "x' '''\" \"\"\" y", "''", "''''", `""`, `"""`, `\`, "\\\n", `\\`, `\' \" '`, "# a", " \t", "(:"} {
			holdOut(t, line, 0, byte(mark), 1, read(line, 0, byte(mark), 1))
			if mark > 4 {
				holdOut(t, line, 0, byte(mark), 1, pytoken.Scan(line, 0, 0, 1))
			}
		}
	}
	hold(t, "a' ''' b", 1, 0, plain, "part a' '''", "name b")
	hold(t, `a" """ b`, 2, 0, plain, `part a" """`, "name b")
	hold(t, "a\" ''b", 3, 0, plain, "part a\" '", "error 'b")
	hold(t, "a' \"\"b", 4, 0, plain, "part a' \"", "error \"b")
	hold(t, "a' ''' b", 5, 0, plain, "name a", "string ' '", "string ''", "name b")
}

// P11.1: a depth below 0 and one above MaxText, and brackets at each depth.
func TestDepths(t *testing.T) {
	for _, x := range []struct {
		line        string
		depth, then int
	}{
		{"", math.MinInt, 0}, {"", -1, 0}, {"", 0, 0}, {"", 1, 1}, {"", most - 1, most - 1}, {"", most, most}, {"", most + 1, most}, {"", math.MaxInt, most},
		{"x", -5, 0}, {"x", 7, 7}, {"x", most + 7, most}, {"(", -1, 1}, {"(", 0, 1}, {"[", 0, 1}, {"{", 0, 1}, {"([{", 3, 6}, {"(((((", most - 2, most}, {"[{(", most, most}, {"(", math.MaxInt, most}, {"{", math.MinInt, 1},
		{")", 1, 0}, {"]", 1, 0}, {"}", 1, 0}, {")]}", 5, 2}, {")", most, most - 1}, {"]", most + 3, most - 1}, {"()", most, most - 1}, {"())", most, most - 2}, {")(", most, most}, {"(]", 0, 0}, {"{)[}", 2, 2}, {"'('", 4, 4}, {"# (", 4, 4}, {"($", 4, 5},
	} {
		if out := pytoken.Scan(x.line, 0, 0, x.depth); out.Depth != x.then {
			t.Errorf("behind %q with the depth %d the depth is %d", x.line, x.depth, out.Depth)
		}
		holdOut(t, x.line, 0, 0, x.depth, read(x.line, 0, 0, x.depth))
	}
	for _, closes := range []string{")", "]", "}"} {
		hold(t, closes, 0, 0, plain, "error "+closes)
		hold(t, closes, 0, math.MinInt, plain, "error "+closes)
		hold(t, closes, 0, 1, plain, "op "+closes)
		hold(t, closes, 0, most+1, pytoken.Out{Some: true, Depth: most - 1}, "op "+closes)
		hold(t, "("+closes+closes+"("+closes, 0, 0, plain, "op (", "op "+closes, "error "+closes, "op (", "op "+closes)
	}
	hold(t, "((", 0, most-1, pytoken.Out{Some: true, Depth: most}, "op (", "op (")
}

// P11.1: each prefix, whatever its letters' size, and letters that are none.
func TestPrefixes(t *testing.T) {
	is := map[string]bool{}
	for _, p := range strings.Fields("r u b f br rb fr rf") {
		is[p] = true
	}
	known := 0
	for _, word := range lines("rubfRUBFxE_0\xc3", 3) {
		if word == "" || word[0] == '0' {
			continue
		}
		if is[strings.ToLower(word)] {
			known++
		}
		for mark := byte(1); mark <= 4; mark++ {
			q := closing[mark]
			if !is[strings.ToLower(word)] {
				hold(t, word+q+"a"+q, 0, 0, plain, "name "+word, "string "+q+"a"+q)
				continue
			}
			hold(t, word+q+"a"+q+"b", 0, 0, plain, "string "+word+q+"a"+q, "name b")
			hold(t, word+q+`\`+q[:1]+q, 0, 0, plain, "string "+word+q+`\`+q[:1]+q)
			hold(t, word+" "+q+"a"+q, 0, 0, plain, "name "+word, "string "+q+"a"+q)
			hold(t, "_"+word+q+"a"+q, 0, 0, plain, "name _"+word, "string "+q+"a"+q)
			hold(t, "1"+word+q+"a"+q, 0, 0, plain, "number 1"+word, "string "+q+"a"+q)
			hold(t, "("+word+q+q, 0, 0, pytoken.Out{Some: true, Depth: 1}, "op (", "string "+word+q+q)
			open := pytoken.Out{Some: true, Mark: mark}
			hold(t, word+q+`a\`, 0, 0, open, "part "+word+q+`a\`)
			if mark < 3 {
				hold(t, word+q, 0, 0, open, "part "+word+q)
			} else {
				hold(t, word+q, 0, 0, plain, "error "+word+q)
			}
		}
	}
	if known != 4*2+4*4 {
		t.Errorf("%d prefixes", known)
	}
	// No letters that become others when they are made small.
	hold(t, "\u212a'a'", 0, 0, plain, "name \u212a", "string 'a'")
	hold(t, "\xd2'a'", 0, 0, plain, "name \xd2", "string 'a'")
	hold(t, "'a'r", 0, 0, plain, "string 'a'", "name r")
	hold(t, "'a'r'b'", 0, 0, plain, "string 'a'", "string r'b'")
}

// P11.1: texts of each kind of quotes, short and long. Each line is held with its two quotes in each other's place too.
func TestTexts(t *testing.T) {
	long, short := pytoken.Out{Some: true, Mark: 1}, pytoken.Out{Some: true, Mark: 3}
	for _, x := range []struct {
		line string
		want pytoken.Out
		told []string
	}{
		// Short ones: empty, ended, and such as do not end.
		{`''`, plain, []string{`string ''`}},
		{`''a`, plain, []string{`string ''`, `name a`}},
		{`'' 'a'`, plain, []string{`string ''`, `string 'a'`}},
		{`'a''b'`, plain, []string{`string 'a'`, `string 'b'`}},
		{`'"'`, plain, []string{`string '"'`}},
		{`'a" # '\`, pytoken.Out{Some: true, Join: true}, []string{`string 'a" # '`, `join \`}},
		{`'`, plain, []string{`error '`}},
		{`'a b # "`, plain, []string{`error 'a b # "`}},
		{`x 'a `, plain, []string{`name x`, `error 'a `}},
		{`(':`, pytoken.Out{Some: true, Depth: 1}, []string{`op (`, `error ':`}},
		// Their last backslash takes the line's end along, or is itself taken along.
		{`'\`, short, []string{`part '\`}},
		{`'a\\\`, short, []string{`part 'a\\\`}},
		{`'\'\`, short, []string{`part '\'\`}},
		{`'a\\`, plain, []string{`error 'a\\`}},
		{`'a\ `, plain, []string{`error 'a\ `}},
		// Quotes behind a backslash.
		{`'\'`, plain, []string{`error '\'`}},
		{`'\''`, plain, []string{`string '\''`}},
		{`'\\'`, plain, []string{`string '\\'`}},
		{`'\\\''`, plain, []string{`string '\\\''`}},
		{`'\"'`, plain, []string{`string '\"'`}},
		{`\'a'`, plain, []string{`error \`, `string 'a'`}},
		{`\'''`, long, []string{`error \`, `part '''`}},
		{`\'`, plain, []string{`error \`, `error '`}},
		// Long ones: empty, ended, and such as do not end.
		{`''''''`, plain, []string{`string ''''''`}},
		{`'''a'b''c'''d`, plain, []string{`string '''a'b''c'''`, `name d`}},
		{`'''"""'''`, plain, []string{`string '''"""'''`}},
		{`'''a''''`, plain, []string{`string '''a'''`, `error '`}},
		{`'''a'''''`, plain, []string{`string '''a'''`, `string ''`}},
		{`'''a''''''`, long, []string{`string '''a'''`, `part '''`}},
		{`'''`, long, []string{`part '''`}},
		{`''''`, long, []string{`part ''''`}},
		{`'''''`, long, []string{`part '''''`}},
		{`''' a  `, long, []string{`part ''' a  `}},
		{`'''a'' '`, long, []string{`part '''a'' '`}},
		{`'''"""`, long, []string{`part '''"""`}},
		{`f('''`, pytoken.Out{Some: true, Mark: 1, Depth: 1}, []string{`name f`, `op (`, `part '''`}},
		// Backslashes within.
		{`'''\`, long, []string{`part '''\`}},
		{`'''\\`, long, []string{`part '''\\`}},
		{`'''\'''`, long, []string{`part '''\'''`}},
		{`'''\''''`, plain, []string{`string '''\''''`}},
		{`'''\\'''`, plain, []string{`string '''\\'''`}},
		{`''''\''`, long, []string{`part ''''\''`}},
		{`'''a''\'`, long, []string{`part '''a''\'`}},
	} {
		swap := strings.NewReplacer(`'`, `"`, `"`, `'`)
		swapped := make([]string, len(x.told))
		for i, told := range x.told {
			swapped[i] = swap.Replace(told)
		}
		other := x.want
		if other.Mark != 0 {
			other.Mark++
		}
		for _, end := range []string{"", "\n", "\r\n", "\n'''"} {
			hold(t, x.line+end, 0, 0, x.want, x.told...)
			hold(t, swap.Replace(x.line)+end, 0, 0, other, swapped...)
		}
	}
}

// P11.1: texts that were open ahead, which end, or do not.
func TestOpenTexts(t *testing.T) {
	for mark := byte(1); mark <= 4; mark++ {
		q, long := closing[mark], mark < 3
		one := q[:1]
		stays := pytoken.Out{Some: true, Mark: mark}
		hold(t, q, mark, 0, plain, "part "+q)
		hold(t, "a"+q, mark, 0, plain, "part a"+q)
		hold(t, " \t"+q+" x", mark, 0, plain, "part  \t"+q, "name x")
		hold(t, "# "+q+" # "+q, mark, 0, plain, "part # "+q, "comment # "+q)
		hold(t, `\`+one+q, mark, 0, plain, `part \`+one+q)
		hold(t, `\\`+q+":", mark, 0, pytoken.Out{Some: true, Colon: true}, `part \\`+q, "op :")
		hold(t, "("+q+"(", mark, 2, pytoken.Out{Some: true, Depth: 3}, "part ("+q, "op (")
		hold(t, "r"+q+q+q, mark, 0, plain, "part r"+q, "string "+q+q)
		hold(t, q+`\`, mark, 0, pytoken.Out{Some: true, Join: true}, "part "+q, `join \`)
		hold(t, `a\`, mark, 0, stays, `part a\`)
		hold(t, "\\\n", mark, 0, stays, `part \`)
		hold(t, "\\\r\n", mark, 5, pytoken.Out{Some: true, Mark: mark, Depth: 5}, `part \`)
		hold(t, "\n", mark, 3, pytoken.Out{Mark: mark, Depth: 3})
		hold(t, "", mark, 3, pytoken.Out{Mark: mark, Depth: 3})
		for _, line := range []string{"a", " ", ":", "(", "# a", `a\\`, "a \\ b", closing[mark%2+3]} {
			if long {
				hold(t, line+"\n", mark, 0, stays, "part "+line)
			} else {
				hold(t, line+"\n", mark, 0, plain, "error "+line)
			}
		}
		if long {
			hold(t, one+one, mark, 0, stays, "part "+one+one)
			hold(t, one+one+" "+one, mark, 0, stays, "part "+one+one+" "+one)
			hold(t, `\`+q, mark, 0, stays, `part \`+q)
			hold(t, q+one, mark, 0, plain, "part "+q, "error "+one)
		} else {
			hold(t, one+one, mark, 0, plain, "part "+one, "error "+one)
			hold(t, `\`+q, mark, 0, plain, `error \`+q)
			hold(t, q+q+q+"a", mark, 0, plain, "part "+q, "string "+q+q, "name a")
		}
	}
}

// P11.1: each operator, and the longest one where several stand.
func TestOperators(t *testing.T) {
	told := func(op string, depth int) string {
		if strings.Contains(")]}", op) && depth == 0 {
			return "error " + op
		}
		return "op " + op
	}
	if len(operators) != 5+19+23 {
		t.Fatalf("%d operators", len(operators))
	}
	for _, op := range operators {
		for depth := range 3 {
			want := pytoken.Out{Some: true, Depth: read(op, 0, 0, depth).Depth, Colon: op == ":" && depth == 0}
			hold(t, op, 0, depth, want, told(op, depth))
			hold(t, op+"\r\n", 0, depth, want, told(op, depth))
			want.Colon = false
			hold(t, "a"+op+"_", 0, depth, want, "name a", told(op, depth), "name _")
		}
		for _, other := range operators {
			holdOut(t, op+other, 0, 0, 1, read(op+other, 0, 0, 1))
		}
	}
	for _, line := range lines("*/<>=!-:.+%&|^@~,;\x00", 4) {
		holdOut(t, line, 0, 0, 0, read(line, 0, 0, 0))
	}
	hold(t, "**=*=", 0, 0, plain, "op **=", "op *=")
	hold(t, "***", 0, 0, plain, "op **", "op *")
	hold(t, "<>", 0, 0, plain, "op <", "op >")
	hold(t, "->>", 0, 0, plain, "op ->", "op >")
	hold(t, "===", 0, 0, plain, "op ==", "op =")
	hold(t, "~=", 0, 0, plain, "op ~", "op =")
	hold(t, "::=", 0, 0, plain, "op :", "op :=")
	hold(t, "..", 0, 0, plain, "op .", "op .")
	hold(t, ".....", 0, 0, plain, "op ...", "op .", "op .")
	hold(t, "!==", 0, 0, plain, "op !=", "op =")
	hold(t, "!!=", 0, 0, plain, "error !", "op !=")
	hold(t, "> >=", 0, 0, plain, "op >", "op >=")
	hold(t, ">\n>", 0, 0, plain, "op >")
	hold(t, "a;b", 0, 0, plain, "name a", "op ;", "name b")
}

// P11.1: numbers.
func TestNumbers(t *testing.T) {
	for _, n := range []string{
		"0", "9", "007", "12_3", "1.", "1.5", "1..2", ".5", ".5.", ".0_", "1._", "1abc", "1j", "0.", "1.e", "1e", "1E", "1e5", "1e+5", "1E-5", "1e+", "1e-", "1.e+5", "1.5E-3J", ".5e+5", ".5E-", "1_e-2", "1ee+1", "1e+e-1", "1e+_", "1e+.5",
		"0x", "0xFF", "0XfF_", "0b01", "0B1", "0o17", "0O7", "1x2", "9b", "0xE", "0x1e", "0x.e", "00xe+1", "0_xe-1", "1.xe+1", ".5xe+1", "0be", "0oE", "0e+x",
	} {
		hold(t, n, 0, 0, plain, "number "+n)
		hold(t, "("+n+")", 0, 0, plain, "op (", "number "+n, "op )")
		hold(t, n+" "+n, 0, 0, plain, "number "+n, "number "+n)
		hold(t, n+"\r\n9", 0, 0, plain, "number "+n)
		hold(t, n+"\xc3\xa9", 0, 0, plain, "number "+n, "name \xc3\xa9")
		hold(t, n+"'", 0, 0, plain, "number "+n, "error '")
		hold(t, "a "+n+"*2", 0, 0, plain, "name a", "number "+n, "op *", "number 2")
		holdOut(t, "a"+n, 0, 0, 0, read("a"+n, 0, 0, 0))
	}
	for c := range "xXbBoO" {
		base := "0" + "xXbBoO"[c:c+1]
		hold(t, base+"E+1", 0, 0, plain, "number "+base+"E", "op +", "number 1")
		hold(t, base+"e-1", 0, 0, plain, "number "+base+"e", "op -", "number 1")
		hold(t, base+"1e+5e-1", 0, 0, plain, "number "+base+"1e", "op +", "number 5e-1")
	}
	hold(t, "1+2", 0, 0, plain, "number 1", "op +", "number 2")
	hold(t, "1e+-5", 0, 0, plain, "number 1e+", "op -", "number 5")
	hold(t, "1e++5", 0, 0, plain, "number 1e+", "op +", "number 5")
	hold(t, "1e5+5", 0, 0, plain, "number 1e5", "op +", "number 5")
	hold(t, "1e +5", 0, 0, plain, "number 1e", "op +", "number 5")
	hold(t, "0ex+", 0, 0, plain, "number 0ex", "op +")
	hold(t, "1a+5", 0, 0, plain, "number 1a", "op +", "number 5")
	hold(t, "e+5", 0, 0, plain, "name e", "op +", "number 5")
	hold(t, "-5", 0, 0, plain, "op -", "number 5")
	hold(t, ".", 0, 0, plain, "op .")
	hold(t, ".e5", 0, 0, plain, "op .", "name e5")
	hold(t, "..5", 0, 0, plain, "op .", "number .5")
	hold(t, "...5", 0, 0, plain, "op ...", "number 5")
	hold(t, "....5", 0, 0, plain, "op ...", "number .5")
	hold(t, ". 5", 0, 0, plain, "op .", "number 5")
	hold(t, ".\n5", 0, 0, plain, "op .")
	hold(t, "a.5", 0, 0, plain, "name a", "number .5")
	hold(t, "1.real", 0, 0, plain, "number 1.real")
}

// P11.1: backslashes, in the midst of a line and as its last byte.
func TestBackslashes(t *testing.T) {
	joined := pytoken.Out{Some: true, Join: true}
	hold(t, `\`, 0, 0, pytoken.Out{Join: true}, `join \`)
	hold(t, ` \`, 0, 0, pytoken.Out{Join: true}, `join \`)
	hold(t, "a \\\n", 0, 0, joined, "name a", `join \`)
	hold(t, "a\\\r\n", 0, 0, joined, "name a", `join \`)
	hold(t, "a\\ \n", 0, 0, plain, "name a", `error \`)
	hold(t, `a\b`, 0, 0, plain, "name a", `error \`, "name b")
	hold(t, `\\`, 0, 0, joined, `error \`, `join \`)
	hold(t, `\\\ `, 0, 0, plain, `error \`, `error \`, `error \`)
	hold(t, `# \`, 0, 0, pytoken.Out{}, `comment # \`)
	hold(t, `\# a`, 0, 0, plain, `error \`, "comment # a")
	hold(t, `\)`, 0, 0, plain, `error \`, "error )")
	hold(t, "(\\\n", 0, 0, pytoken.Out{Some: true, Join: true, Depth: 1}, "op (", `join \`)
	hold(t, `'a'\`, 0, 0, joined, "string 'a'", `join \`)
}

// P11.1: each byte by itself, ahead of a letter, and behind one.
func TestBytes(t *testing.T) {
	const letters = "abcdefghijklmnopqrstuvwxyzABCDEFGHIJKLMNOPQRSTUVWXYZ_"
	for c := range 256 {
		b := string([]byte{byte(c)})
		var alone, ahead []string
		switch {
		case c == 10:
			hold(t, b+"a", 0, 0, pytoken.Out{})
			hold(t, "a"+b+"a", 0, 0, plain, "name a")
			continue
		case strings.Contains(" \t\f\r", b):
			ahead = []string{"name a"}
		case c == '#':
			hold(t, b, 0, 0, pytoken.Out{}, "comment "+b)
			hold(t, b+"a", 0, 0, pytoken.Out{}, "comment "+b+"a")
			continue
		case c == '\\':
			hold(t, b, 0, 0, pytoken.Out{Join: true}, "join "+b)
			hold(t, b+"a", 0, 0, plain, "error "+b, "name a")
			continue
		case c == '\'' || c == '"':
			alone, ahead = []string{"error " + b}, []string{"error " + b + "a"}
		case c >= 128 || strings.Contains(letters, b):
			alone, ahead = []string{"name " + b}, []string{"name " + b + "a"}
			hold(t, b+b+"1"+b, 0, 0, plain, "name "+b+b+"1"+b)
		case c >= '0' && c <= '9':
			alone, ahead = []string{"number " + b}, []string{"number " + b + "a"}
			hold(t, "a"+b, 0, 0, plain, "name a"+b)
		case slices.Contains(operators, b) && !strings.Contains(")]}", b):
			alone, ahead = []string{"op " + b}, []string{"op " + b, "name a"}
		default:
			alone, ahead = []string{"error " + b}, []string{"error " + b, "name a"}
			hold(t, b+b, 0, 0, plain, "error "+b, "error "+b)
		}
		out := pytoken.Out{Some: len(alone) > 0, Colon: b == ":"}
		if strings.Contains("([{", b) {
			out.Depth = 1
		}
		hold(t, b, 0, 0, out, alone...)
		hold(t, b+"\n", 0, 0, out, alone...)
		out.Some, out.Colon = true, false
		hold(t, b+"a", 0, 0, out, ahead...)
	}
	for _, b := range []string{"\x00", "\v", "\x1f", "\x7f", "$", "?", "`", "!"} {
		hold(t, "a"+b+"1", 0, 0, plain, "name a", "error "+b, "number 1")
	}
	for _, b := range []string{"\u00a0", "\u2028", "\u0085", "\ufeff", "\xff\xfe", "\x80"} {
		hold(t, b+" a"+b, 0, 0, plain, "name "+b, "name a"+b)
	}
}

// P11.1: Join, Some and Colon.
func TestColons(t *testing.T) {
	for _, x := range []struct {
		line              string
		depth             int
		join, some, colon bool
	}{
		{"", 0, false, false, false}, {"  ", 0, false, false, false}, {"# a:", 0, false, false, false}, {"\\", 0, true, false, false}, {"#\\", 0, false, false, false},
		{":", 0, false, true, true}, {"a:", 0, false, true, true}, {"a :\t", 0, false, true, true}, {"a: # b", 0, false, true, true}, {":#", 0, false, true, true}, {"a: \\", 0, true, true, true}, {"a:\\\n", 0, true, true, true}, {"a:\r\n", 0, false, true, true},
		{"a: b", 0, false, true, false}, {"a::", 0, false, true, true}, {"a:;", 0, false, true, false}, {"a: $", 0, false, true, false}, {"a: \\ ", 0, false, true, false}, {"a: \\ #", 0, false, true, false}, {"a: ''", 0, false, true, false}, {"a: '", 0, false, true, false}, {"a: 1", 0, false, true, false},
		{"a:=", 0, false, true, false}, {":=:", 0, false, true, true}, {"a: =", 0, false, true, false}, {":=", 0, false, true, false},
		{"(a:", 0, false, true, false}, {"(a:)", 0, false, true, false}, {"(a:):", 0, false, true, true}, {"a:)", 0, false, true, false}, {"):", 0, false, true, true}, {"[:", 0, false, true, false}, {"[]:", 0, false, true, true},
		{":", 1, false, true, false}, {"):", 1, false, true, true}, {"):", 2, false, true, false}, {":)", 1, false, true, false}, {":", -1, false, true, true}, {":", most + 1, false, true, false}, {": \\", 1, true, true, false},
		{"':'", 0, false, true, false}, {"':", 0, false, true, false}, {"a", 0, false, true, false}, {"\\ #", 0, false, true, false}, {"$ \\", 0, true, true, false}, {"'a\\", 0, false, true, false}, {"'''", 0, false, true, false}, {"''':", 0, false, true, false},
	} {
		out := pytoken.Scan(x.line, 0, 0, x.depth)
		if out.Join != x.join || out.Some != x.some || out.Colon != x.colon {
			t.Errorf("Scan(%q) with the depth %d tells Join %v, Some %v, Colon %v", x.line, x.depth, out.Join, out.Some, out.Colon)
		}
		holdOut(t, x.line, 0, 0, x.depth, read(x.line, 0, 0, x.depth))
	}
	// Of a text that was open.
	hold(t, "a: ''':", 1, 0, pytoken.Out{Some: true, Colon: true}, "part a: '''", "op :")
	hold(t, "a:", 1, 0, pytoken.Out{Some: true, Mark: 1}, "part a:")
	hold(t, ":\\", 3, 0, pytoken.Out{Some: true, Mark: 3}, `part :\`)
	hold(t, ":", 3, 0, plain, "error :")
}

// P11.1: all short lines of some bytes, whatever is open, against what is told by the words alone.
func TestShortLines(t *testing.T) {
	for _, x := range []struct {
		letters string
		n       int
	}{
		{"'\\", 9}, {"'\"\\r", 5}, {"\"'a\\\n\r", 5}, {"rBu'x", 5}, {"1.e+xE", 6}, {"0_b-O\xff", 5}, {"([:#)=\\", 5}, {"\\ \r\n'", 6}, {"a1 \t'\"\\#(]:=.*/!-$\x00\v\x80\r\n", 3},
	} {
		for _, line := range lines(x.letters, x.n) {
			for mark := range byte(5) {
				if out, want := pytoken.Scan(line, 0, mark, 1), read(line, 0, mark, 1); !same(out, want) {
					t.Fatalf("Scan(%q, 0, %d, 1) = %v, not %v", line, mark, out, want)
				}
			}
		}
	}
}

// pieces are what lines are made of, of which the parts mean something to one another.
var pieces = []string{
	"'", "'", "'''", `"`, `"""`, `\`, `\`, " ", "  ", "\t", "\f", "\r", "\n", "#", "(", "[", "{", ")", "]", "}", ":", ":=", "=", ".", "...", "*", "**", "/", "//=", "<", ">", ">>=", "!", "-", "->", "+", "@", ";", ",", "~", "$", "?", "\x00", "\v", "\x7f",
	"a", "_", "e", "E", "r", "u", "b", "f", "Rb", "fR", "bu", "if", "x1", "0", "1", "0x", "1e", "1.5", ".5", "0o", "9_", "\xc3\xa9", "\x80", "\xff", "\u2028",
}

// P11.1: long lines of whatever pieces, from any place, against what is told by the words alone.
func TestManyLines(t *testing.T) {
	seed := uint64(11)
	for range 60000 {
		line := mixed(&seed, 24, pieces)
		at, mark, depth := turn(&seed, len(line)+3)-1, byte(turn(&seed, 6)), turn(&seed, 4)-1
		if turn(&seed, 2) == 0 {
			at = 0
		}
		if turn(&seed, 8) == 0 {
			depth = most - turn(&seed, 3)
		}
		if out, want := pytoken.Scan(line, at, mark, depth), read(line, at, mark, depth); !same(out, want) {
			t.Fatalf("Scan(%q, %d, %d, %d) = %v, not %v", line, at, mark, depth, out, want)
		}
	}
}

// whatever are n bytes of any kind, or of those that mean something.
func whatever(seed *uint64, n int) string {
	b := make([]byte, n)
	for i := range b {
		b[i] = byte(turn(seed, 256))
		if turn(seed, 3) == 0 {
			b[i] = "'\"\\\r\n #(:"[turn(seed, 9)]
		}
	}
	return string(b)
}

// P11.2: leaves lie in order, have bytes, and do not overlap; between them, ahead of the first and behind the last one are blanks alone; so is what is left behind at and ahead of the line's end.
func TestNothingIsLost(t *testing.T) {
	seed := uint64(13)
	for round := range 40000 {
		line := whatever(&seed, turn(&seed, 40))
		if round%2 == 0 {
			line = mixed(&seed, 20, pieces)
		}
		at, mark, depth := turn(&seed, 3)-1, byte(turn(&seed, 5)), turn(&seed, 3)
		behind := min(max(at, 0), len(ended(line)))
		gap := func(from, to int) {
			if strings.Trim(line[from:to], " \t\f\r") != "" {
				t.Fatalf("Scan(%q, %d, %d, %d) tells nothing of %q", line, at, mark, depth, line[from:to])
			}
		}
		for _, e := range pytoken.Scan(line, at, mark, depth).Events {
			if e.Op != api.OpLeaf || e.At < behind || e.To <= e.At || e.To > len(ended(line)) {
				t.Fatalf("Scan(%q, %d, %d, %d) tells %v behind the place %d", line, at, mark, depth, e, behind)
			}
			if e.Kind != api.KindError && (e.Kind < api.PyName || e.Kind > api.PyJoin) {
				t.Fatalf("Scan(%q, %d, %d, %d) tells the kind %d", line, at, mark, depth, e.Kind)
			}
			gap(behind, e.At)
			behind = e.To
		}
		gap(behind, len(ended(line)))
	}
}

// within are bytes as they may stand in a text that ends in quote: those that would end it, or a line, have a backslash ahead.
func within(bytes string, quote byte) string {
	var b strings.Builder
	for i := range len(bytes) {
		if c := bytes[i]; c == quote || c == '\n' || c == '\\' {
			b.WriteByte('\\')
		}
		b.WriteByte(bytes[i])
	}
	return b.String()
}

// P11.3: a text of whatever bytes is one leaf; one that goes over lines is one leaf of each of them.
func TestTextsAreLeaves(t *testing.T) {
	seed := uint64(17)
	prefixes := []string{"", "r", "U", "b", "F", "bR", "rb", "Fr", "RF"}
	for range 30000 {
		mark := byte(1 + turn(&seed, 4))
		q := closing[mark]
		text := prefixes[turn(&seed, len(prefixes))] + q + within(whatever(&seed, turn(&seed, 30)), q[0]) + q
		all := strings.SplitAfter("x= "+text+"y", "\n")
		at, open := 3, byte(0)
		for i, line := range all {
			last := i == len(all)-1
			kind, to, then := api.PyPart, len(ended(line)), mark
			if last {
				to, then = len(line)-1, 0
			}
			if len(all) == 1 {
				kind = api.PyString
			}
			want := pytoken.Out{Some: true, Mark: then, Events: []api.Event{{Op: api.OpLeaf, Kind: kind, At: at, To: to}}}
			if last {
				want.Events = append(want.Events, api.Event{Op: api.OpLeaf, Kind: api.PyName, At: to, To: to + 1})
			}
			if out := pytoken.Scan(line, at, open, 0); !same(out, want) {
				t.Fatalf("Scan(%q, %d, %d, 0) = %v, not %v", line, at, open, out, want)
			}
			at, open = 0, mark
		}
	}
}

// P11.4: behind a line that left nothing open and no comment, what a blank and other bytes behind it tell is what these tell by themselves, the depth handed on.
func TestPieces(t *testing.T) {
	seed := uint64(19)
	held := 0
	for held < 30000 {
		first := strings.ReplaceAll(mixed(&seed, 8, pieces), "\n", "")
		second := " \t\f\r"[turn(&seed, 4):][:1] + mixed(&seed, 8, pieces)
		if strings.HasPrefix(second, "\r\n") {
			continue
		}
		mark, depth := byte(turn(&seed, 5)), turn(&seed, 3)
		// A comment begins right behind it, so it left nothing open and no comment, nor a text that does not end.
		told := pytoken.Scan(first+"#", 0, mark, depth).Events
		if told[len(told)-1].At != len(first) || told[len(told)-1].Kind != api.PyComment {
			continue
		}
		ahead := pytoken.Scan(first, 0, mark, depth)
		if ahead.Mark != 0 {
			t.Fatalf("Scan(%q, 0, %d, %d) = %v", first, mark, depth, ahead)
		}
		held++
		both, own := pytoken.Scan(first+second, 0, mark, depth), pytoken.Scan(second, 0, 0, ahead.Depth)
		want := slices.Clone(ahead.Events)
		if n := len(want); ahead.Join && len(ended(first+second)) > len(first) {
			// The backslash is the last byte no more.
			want[n-1].Kind = api.KindError
		}
		for _, e := range own.Events {
			e.At, e.To = e.At+len(first), e.To+len(first)
			want = append(want, e)
		}
		if !slices.Equal(both.Events, want) || both.Mark != own.Mark || both.Depth != own.Depth || both.Join != own.Join || own.Some && both.Colon != own.Colon {
			t.Fatalf("Scan(%q, 0, %d, %d) = %v; behind %q = %v, %q tells %v", first+second, mark, depth, both, first, ahead, second, own)
		}
	}
}

// P11.1: lines as long as a text may be.
func TestLongLines(t *testing.T) {
	leaf := func(kind uint8, from, to int) api.Event {
		return api.Event{Op: api.OpLeaf, Kind: kind, At: from, To: to}
	}
	long := func(s string) string { return strings.Repeat(s, most/len(s)) }
	holdOut(t, long(" "), 0, 0, 0, pytoken.Out{})
	holdOut(t, long("\r"), 0, 0, 0, pytoken.Out{})
	holdOut(t, long("\xff"), 0, 0, 0, pytoken.Out{Some: true, Events: []api.Event{leaf(api.PyName, 0, most)}})
	holdOut(t, long("1e+."), 0, 0, 0, pytoken.Out{Some: true, Events: []api.Event{leaf(api.PyNumber, 0, most)}})
	holdOut(t, long("#'"), 0, 0, 0, pytoken.Out{Events: []api.Event{leaf(api.PyComment, 0, most)}})
	holdOut(t, "'"+long("a")[1:], 0, 0, 0, pytoken.Out{Some: true, Events: []api.Event{leaf(api.KindError, 0, most)}})
	holdOut(t, long(`\'`), 0, 1, 0, pytoken.Out{Some: true, Mark: 1, Events: []api.Event{leaf(api.PyPart, 0, most)}})
	holdOut(t, long(`\`)[1:], 0, 4, 0, pytoken.Out{Some: true, Mark: 4, Events: []api.Event{leaf(api.PyPart, 0, most-1)}})
	holdOut(t, long(`\`), 0, 4, 0, pytoken.Out{Some: true, Events: []api.Event{leaf(api.KindError, 0, most)}})
	for _, x := range []struct {
		line        string
		n, to       int
		depth, then int
	}{
		{"(", most, 1, 0, most}, {"[", most, 1, 5, most}, {")", most, 1, most, 0}, {"}", most, 1, most / 2, 0}, {"()", most, 1, most, most - 1}, {")(", most, 1, most, most}, {"=", most / 2, 2, 0, 0}, {"!", most, 1, 0, 0}, {`\`, most, 1, 0, 0}, {"'',", most / 3 * 2, 2, 0, 0}, {".", most/3 + 1, 3, 0, 0}, {"a ", most / 2, 1, 0, 0}, {"rb'';", most / 5 * 2, 4, 0, 0},
	} {
		out := pytoken.Scan(long(x.line), 0, 0, x.depth)
		if len(out.Events) != x.n || out.Depth != x.then || out.Mark != 0 || out.Events[0].To != x.to {
			t.Errorf("%q, so often, makes %d leaves, the depth %d", x.line, len(out.Events), out.Depth)
		}
	}
}

// P11.1: what is told is new memory each time, spare room too; what is written there shows nowhere.
func TestAnswersAreNew(t *testing.T) {
	for _, line := range []string{"x", "a = (1, # c\n", "'''", "  ", "x:\n", strings.Repeat("a ", 50), "'a\\\n", ") \\"} {
		for mark := range byte(5) {
			want := read(line, 0, mark, 1)
			var all []pytoken.Out
			for range 3 {
				out := pytoken.Scan(line, 0, mark, 1)
				if !same(out, want) {
					t.Fatalf("Scan(%q, 0, %d, 1) = %v, not %v", line, mark, out, want)
				}
				all = append(all, out)
			}
			for i, out := range all {
				spare := out.Events[:cap(out.Events)]
				for k := range spare {
					spare[k] = api.Event{Op: 99, Kind: 99, At: i, To: -i}
				}
				out.Events = append(out.Events, api.Event{At: i})
				for _, later := range append(all[i+1:], pytoken.Scan(line, 0, mark, 1)) {
					if !same(later, want) {
						t.Fatalf("what is written to an answer shows in another one of %q: %v", line, later)
					}
				}
			}
		}
	}
}
