package shdoc_test

import (
	"slices"
	"strconv"
	"strings"
	"testing"

	"indenture/api"
	"indenture/shdoc"
)

// words are the kinds' names.
var words = map[uint8]string{
	api.KindError: "error", api.ShLine: "line", api.ShWord: "word", api.ShOp: "op", api.ShComment: "comment", api.ShJoin: "join", api.ShDoc: "doc", api.ShText: "text", api.ShDelim: "delim",
}

// told tells events as words: "open line 0", "word 0 3", "close 7".
func told(l []api.Event) string {
	var all []string
	for _, e := range l {
		word, at, to := words[e.Kind], strconv.Itoa(e.At), strconv.Itoa(e.To)
		if word == "" {
			word = "kind " + strconv.Itoa(int(e.Kind))
		}
		switch {
		case e.Op == api.OpOpen && e.To == 0:
			all = append(all, "open "+word+" "+at)
		case e.Op == api.OpClose && e.To == 0 && e.Kind == 0:
			all = append(all, "close "+at)
		case e.Op == api.OpLeaf:
			all = append(all, word+" "+at+" "+to)
		default:
			all = append(all, "op "+strconv.Itoa(int(e.Op))+" of "+word+" "+at+" "+to)
		}
	}
	return strings.Join(all, ", ")
}

// doc is a document that waits, told by its word, with - ahead, if tabs are taken off, and ' behind, if it was quoted.
func doc(sign string) api.Doc {
	word, strip := strings.CutPrefix(sign, "-")
	word, raw := strings.CutSuffix(word, "'")
	return api.Doc{Word: word, Strip: strip, Raw: raw}
}

// state is one of a Mode and a Mark, in which documents wait that are told by signs.
func state(mode uint8, mark byte, signs ...string) api.State {
	s := api.State{Mode: mode, Mark: mark, Wait: len(signs)}
	for i, sign := range signs {
		s.Docs[i] = doc(sign)
	}
	return s
}

// going is the state within a line that goes on.
func going(mark byte, signs ...string) api.State { return state(1, mark, signs...) }

// inside is the state within the first document.
func inside(signs ...string) api.State { return state(2, 0, signs...) }

// nothing is the state between lines.
var nothing = api.State{}

// hold holds what a line tells from a state, and the state behind it.
func hold(t *testing.T, s api.State, line, want string, behind api.State) api.State {
	t.Helper()
	ev, now := shdoc.Scan(s, line)
	if told(ev) != want || now != behind {
		t.Errorf("Scan(%v, %.99q) tells\n%s, %v, not\n%s, %v", s, line, told(ev), now, want, behind)
	}
	return now
}

// row is a line that is scanned from the state behind the one ahead of it.
type row struct {
	line, want string
	behind     api.State
}

// holdRows holds lines that stand one behind the other, the first one from the zero state.
func holdRows(t *testing.T, rows ...row) {
	t.Helper()
	s := nothing
	for _, x := range rows {
		hold(t, s, x.line, x.want, x.behind)
		s = x.behind
	}
}

// holdEnd holds what is told of a text that ends in a state.
func holdEnd(t *testing.T, s api.State, want string) {
	t.Helper()
	if ev := shdoc.End(s); told(ev) != want {
		t.Errorf("End(%v) tells\n%s, not\n%s", s, told(ev), want)
	}
}

// P16.2, P16.3, P16.4: the chapter's examples.
func TestExamples(t *testing.T) {
	holdRows(t,
		row{"cat <<E\n", "open line 0, word 0 3, op 4 6, word 6 7, close 7, open doc 8", inside("E")},
		row{"x\n", "text 0 2", inside("E")},
		row{"E\n", "delim 0 1, close 2", nothing},
	)
	holdRows(t, row{"cat <<\n", "open line 0, word 0 3, error 4 6, close 6", nothing})
	holdRows(t,
		row{"a \\\n", "open line 0, word 0 1, join 2 4", going(0)},
		row{"\n", "close 0", nothing},
	)
	holdRows(t, row{"echo 'a\n", "open line 0, word 0 4, word 5 8", going('\'')})
	holdEnd(t, going('\''), "error 0 0, close 0")
}

// P16.2: lines that neither go on nor ask for a document.
func TestOrdinaryLines(t *testing.T) {
	for _, x := range []struct{ line, want string }{
		{"", ""},
		{"\n", ""},
		{" \t \n", ""},
		{"a\n", "open line 0, word 0 1, close 1"},
		{"a", "open line 0, word 0 1, close 1"},
		{"  a  \n", "open line 2, word 2 3, close 3"},
		{"\ta b;c\n", "open line 1, word 1 2, word 3 4, op 4 5, word 5 6, close 6"},
		{"; # b\n", "open line 0, op 0 1, comment 2 5, close 5"},
		{"&\n", "open line 0, op 0 1, close 1"},
		{"a # b \n", "open line 0, word 0 1, comment 2 6, close 6"},
		{"# a\n", "comment 0 3"},
		{"  # <<E", "comment 2 7"},
		{"#", "comment 0 1"},
		{"a\r\n", "open line 0, word 0 2, close 2"},
		{"\r\n", "open line 0, word 0 1, close 1"},
		{"''\n", "open line 0, word 0 2, close 2"},
		{"a\\\\\n", "open line 0, word 0 3, close 3"},
		{"a\\", "open line 0, word 0 2, close 2"},
		{"\\", "open line 0, word 0 1, close 1"},
		{"\xff\x00", "open line 0, word 0 2, close 2"},
		{"a > b < c >> d <> e 2>&1 | (f && g || h)\n", "open line 0, word 0 1, op 2 3, word 4 5, op 6 7, word 8 9, op 10 12, word 13 14, op 15 17, word 18 19, word 20 21, op 21 23, word 23 24, op 25 26, op 27 28, word 28 29, op 30 32, word 33 34, op 35 37, word 38 39, op 39 40, close 40"},
		{"a\nb\n", "open line 0, word 0 3, close 3"},
		{"'<<E' \\<<E\n", "open line 0, word 0 5, word 6 8, op 8 9, word 9 10, close 10"},
		{"$x <& E\n", "open line 0, word 0 2, op 3 5, word 6 7, close 7"},
	} {
		hold(t, nothing, x.line, x.want, nothing)
	}
}

// P16.2: a line goes on behind a join, and in an open quote; what it asked for waits meanwhile.
func TestLinesThatGoOn(t *testing.T) {
	holdRows(t,
		row{"a \\\n", "open line 0, word 0 1, join 2 4", going(0)},
		row{"  b\\\n", "word 2 3, join 3 5", going(0)},
		row{"\\\n", "join 0 2", going(0)},
		row{"c # \\\n", "word 0 1, comment 2 5, close 5", nothing},
	)
	holdRows(t,
		row{"\\\n", "open line 0, join 0 2", going(0)},
		row{"# b\n", "comment 0 3, close 3", nothing},
	)
	holdRows(t,
		row{" \\\n", "open line 1, join 1 3", going(0)},
		row{" \t\n", "close 0", nothing},
	)
	holdRows(t,
		row{"a \"b\n", "open line 0, word 0 1, word 2 5", going('"')},
		row{"\n", "word 0 1", going('"')},
		row{"# c 'd <<E\n", "word 0 11", going('"')},
		row{"e\" 'f\n", "word 0 2, word 3 6", going('\'')},
		row{"g\\' h\\\n", "word 0 3, word 4 5, join 5 7", going(0)},
		row{"i;\n", "word 0 1, op 1 2, close 2", nothing},
	)
	holdRows(t,
		row{"'", "open line 0, word 0 1", going('\'')},
		row{"'", "word 0 1, close 1", nothing},
	)
	holdRows(t,
		row{"cat <<E -<<-'F' \\\n", "open line 0, word 0 3, op 4 6, word 6 7, word 8 9, op 9 12, word 12 15, join 16 18", going(0, "E", "-F'")},
		row{"x <<G 'y\n", "word 0 1, op 2 4, word 4 5, word 6 9", going('\'', "E", "-F'", "G")},
		row{"F\n", "word 0 2", going('\'', "E", "-F'", "G")},
		row{"E'\n", "word 0 2, close 2, open doc 3", inside("E", "-F'", "G")},
	)
	hold(t, going(0, "E"), "\n", "close 0, open doc 1", inside("E"))
	hold(t, going(0, "E"), "# a", "comment 0 3, close 3, open doc 3", inside("E"))
	hold(t, going('"', "E"), "E\n", "word 0 2", going('"', "E"))
	hold(t, going('"'), "<<E\" <<F", "word 0 4, op 5 7, word 7 8, close 8, open doc 8", inside("F"))
}

// P16.2, P16.3: a line without bytes tells nothing, whatever the state.
func TestLinesWithoutBytes(t *testing.T) {
	for _, s := range []api.State{nothing, going(0), going('\''), going('"', "E"), going(0, "", "-"), inside("E"), inside(""), inside("-'", "F")} {
		hold(t, s, "", "", s)
	}
}

// P16.2: what asks for a document, and how it waits.
func TestDocumentsThatAreAskedFor(t *testing.T) {
	long := strings.Repeat("x", api.MaxWord)
	for _, x := range []struct{ sign, waits string }{
		{"<<E", "E"}, {"<<-E", "-E"}, {"<< E", "E"}, {"<<\t \tE", "E"}, {"<<- E", "-E"}, {"<< -E", ""}, {"<<--E", ""},
		{"<<'E'", "E'"}, {"<<\"E\"", "E'"}, {"<<\\E", "E'"}, {"<<-'E F'", "-E F'"}, {"<<E'F'", "EF'"}, {"<<\"E\\$\\a\"", "E$\\a'"}, {"<<\\\\", "\\'"},
		{"<<''", "'"}, {"<<-\"\"", "-'"}, {"<<#E", ""}, {"<<E#F", "E#F"}, {"<<$x", "$x"}, {"<<\xff\x00", "\xff\x00"}, {"<<E\r", "E\r"}, {"<<'\tE'", "\tE'"}, {"<<-'\tE'", "-\tE'"},
		{"<<" + long, long}, {"<<'" + long + "'", long + "'"}, {"<<-" + long[1:] + "\\y", "-" + long[1:] + "y'"},
	} {
		s := inside(x.waits)
		switch x.sign {
		case "<< -E":
			s.Docs[0] = api.Doc{Word: "-E"}
		case "<<--E":
			s.Docs[0] = api.Doc{Word: "-E", Strip: true}
		case "<<#E":
			s = nothing
		}
		line := "cat " + x.sign
		for _, end := range []string{"", "\n"} {
			if _, now := shdoc.Scan(nothing, line+end); now != s {
				t.Errorf("behind %q the state is %v, not %v", line+end, now, s)
			}
		}
	}
	hold(t, nothing, "<<E\n", "open line 0, op 0 2, word 2 3, close 3, open doc 4", inside("E"))
	hold(t, nothing, "a <<E b # c\n", "open line 0, word 0 1, op 2 4, word 4 5, word 6 7, comment 8 11, close 11, open doc 12", inside("E"))
	hold(t, nothing, "a <<E", "open line 0, word 0 1, op 2 4, word 4 5, close 5, open doc 5", inside("E"))
	hold(t, nothing, "a<<E<<-F;b<<'G'\n", "open line 0, word 0 1, op 1 3, word 3 4, op 4 7, word 7 8, op 8 9, word 9 10, op 10 12, word 12 15, close 15, open doc 16", inside("E", "-F", "G'"))
	hold(t, nothing, "<<E <<E\n", "open line 0, op 0 2, word 2 3, op 4 6, word 6 7, close 7, open doc 8", inside("E", "E"))
	hold(t, nothing, " <<E 'a\n", "open line 1, op 1 3, word 3 4, word 5 8", going('\'', "E"))
}

// P16.2: operators that ask for none are errors; the word behind them is told as any other.
func TestDocumentsThatMayNotBe(t *testing.T) {
	long := strings.Repeat("x", api.MaxWord+1)
	for _, x := range []struct{ line, want string }{
		{"<<\n", "open line 0, error 0 2, close 2"},
		{"<<-", "open line 0, error 0 3, close 3"},
		{"a << # E\n", "open line 0, word 0 1, error 2 4, comment 5 8, close 8"},
		{"<<;E\n", "open line 0, error 0 2, op 2 3, word 3 4, close 4"},
		{"<<-)\n", "open line 0, error 0 3, op 3 4, close 4"},
		{"<<<E\n", "open line 0, error 0 2, op 2 3, word 3 4, close 4"},
		{"<< > E\n", "open line 0, error 0 2, op 3 4, word 5 6, close 6"},
		{"<<" + long + "\n", "open line 0, error 0 2, word 2 67, close 67"},
		{"<<-'" + long + "'", "open line 0, error 0 3, word 3 70, close 70"},
		{"<<'E\nF'\n", "open line 0, error 0 2, word 2 7, close 7"},
		{"<<E\nF\n", "open line 0, error 0 2, word 2 5, close 5"},
		{"<<\\\nE", "open line 0, error 0 2, word 2 5, close 5"},
		{"<<-\nE\n", "open line 0, error 0 3, word 3 5, close 5"},
	} {
		hold(t, nothing, x.line, x.want, nothing)
	}
	hold(t, nothing, "<<\\\n", "open line 0, error 0 2, join 2 4", going(0))
	hold(t, nothing, "<<'E\n", "open line 0, error 0 2, word 2 5", going('\''))
	hold(t, nothing, "<<- \"E", "open line 0, error 0 3, word 4 6", going('"'))
	hold(t, nothing, "<<E'F\n", "open line 0, error 0 2, word 2 6", going('\''))
	hold(t, nothing, "<<<<E\n", "open line 0, error 0 2, op 2 4, word 4 5, close 5, open doc 6", inside("E"))
	hold(t, nothing, "<<-<<E\n", "open line 0, error 0 3, op 3 5, word 5 6, close 6, open doc 7", inside("E"))
	// The word must stand in the same line: behind a join, or in a quote that another line opened, it is none.
	hold(t, going(0), "E\n", "word 0 1, close 1", nothing)
	hold(t, going('\''), "E' <<F\n", "word 0 2, op 3 5, word 5 6, close 6, open doc 7", inside("F"))
	// Other operators ask for none.
	hold(t, nothing, "< E <E >> E <& E <> E\n", "open line 0, op 0 1, word 2 3, op 4 5, word 5 6, op 7 9, word 10 11, op 12 14, word 15 16, op 17 19, word 20 21, close 21", nothing)
	// A word is no operator, whatever it says.
	hold(t, nothing, "'<<' E \\<\\<- F\n", "open line 0, word 0 4, word 5 6, word 7 12, word 13 14, close 14", nothing)
}

// P16.2: no more than MaxDocs documents wait, those of the lines ahead among them.
func TestDocumentsThatAreTooMany(t *testing.T) {
	hold(t, nothing, "<<A <<B <<-C <<D\n", "open line 0, op 0 2, word 2 3, op 4 6, word 6 7, op 8 11, word 11 12, op 13 15, word 15 16, close 16, open doc 17", inside("A", "B", "-C", "D"))
	hold(t, nothing, "<<A <<B <<-C <<D <<E <<-F\n", "open line 0, op 0 2, word 2 3, op 4 6, word 6 7, op 8 11, word 11 12, op 13 15, word 15 16, error 17 19, word 19 20, error 21 24, word 24 25, close 25, open doc 26", inside("A", "B", "-C", "D"))
	hold(t, nothing, "<<A << ; <<B <<C <<D <<E\n", "open line 0, op 0 2, word 2 3, error 4 6, op 7 8, op 9 11, word 11 12, op 13 15, word 15 16, op 17 19, word 19 20, error 21 23, word 23 24, close 24, open doc 25", inside("A", "B", "C", "D"))
	hold(t, going(0, "A", "B", "C"), "<<D <<E \\\n", "op 0 2, word 2 3, error 4 6, word 6 7, join 8 10", going(0, "A", "B", "C", "D"))
	hold(t, going(0, "A", "B", "C", "D"), "<<E\n", "error 0 2, word 2 3, close 3, open doc 4", inside("A", "B", "C", "D"))
	hold(t, going('\'', "", "", "", ""), "' <<''", "word 0 1, error 2 4, word 4 6, close 6, open doc 6", inside("", "", "", ""))
}

// P16.3: which line ends a document.
func TestDelimiters(t *testing.T) {
	for _, x := range []struct{ waits, line, want string }{
		{"E", "E\n", "delim 0 1, close 2"},
		{"E", "E", "delim 0 1, close 1"},
		{"E'", "E\n", "delim 0 1, close 2"},
		{"-E", "E\n", "delim 0 1, close 2"},
		{"-E", "\t\tE\n", "delim 2 3, close 4"},
		{"-E'", "\tE", "delim 1 2, close 2"},
		{"E F'", "E F\n", "delim 0 3, close 4"},
		{"'", "\n", "delim 0 0, close 1"},
		{"-'", "\n", "delim 0 0, close 1"},
		{"-'", "\t\n", "delim 1 1, close 2"},
		{"-'", "\t\t", "delim 2 2, close 2"},
		{"\tE'", "\tE\n", "delim 0 2, close 3"},
		{"\t'", "\t\n", "delim 0 1, close 2"},
		{"E\t'", "E\t\n", "delim 0 2, close 3"},
		{"-E\t'", "\tE\t\n", "delim 1 3, close 4"},
		{"E\r", "E\r\n", "delim 0 2, close 3"},
		{"\xff\x00", "\xff\x00", "delim 0 2, close 2"},
		{"a\n", "a\n\n", "delim 0 2, close 3"},
		{"\n", "\n\n", "delim 0 1, close 2"},
	} {
		hold(t, inside(x.waits), x.line, x.want, nothing)
		// Whichever wait behind it, the next one opens, and waits as it did.
		all := []string{x.waits, "-F", "E", "'"}
		for n := 2; n <= api.MaxDocs; n++ {
			want := x.want + ", open doc " + strconv.Itoa(len(x.line))
			hold(t, inside(all[:n]...), x.line, want, inside(all[1:n]...))
		}
	}
}

// P16.3: which lines do not, and are told as they stand.
func TestLinesOfDocuments(t *testing.T) {
	for _, x := range []struct{ waits, line string }{
		{"E", "\n"}, {"E", "x\n"}, {"E", "e\n"}, {"E", "EE\n"}, {"E", " E\n"}, {"E", "E \n"}, {"E", "\tE\n"}, {"E", "E\r\n"}, {"E", "E\n\n"}, {"E", "\nE"}, {"E", "'E'\n"}, {"E", "E\\\n"}, {"E", "x"}, {"E", "<<E\n"}, {"E", "# E"}, {"E", "E # x\n"}, {"E", "'\n"}, {"E", "a \\\n"}, {"E", "\xff\x00"},
		{"E'", "\tE\n"}, {"E'", "'E'\n"},
		{"-E", " E\n"}, {"-E", "\t E\n"}, {"-E", " \tE\n"}, {"-E", "\tE\t\n"}, {"-E", "\t\tx\n"}, {"-E", "\t\n"}, {"-E", "\t"}, {"-E", "\t\nE"},
		{"'", " \n"}, {"'", "\t\n"}, {"'", "''\n"}, {"'", "\n\n"}, {"'", "\r\n"}, {"-'", " \n"}, {"-'", "\t \n"},
		{"-\tE'", "\tE\n"}, {"-\tE'", "\t\tE\n"}, {"-\tE'", "E\n"}, {"-\t'", "\t\n"}, {"-\t'", "\n"},
		{"a\n", "a\n"}, {"a\n", "a"}, {"EOF", "EO"}, {"EOF", "EOFF\n"},
	} {
		want := "text 0 " + strconv.Itoa(len(x.line))
		hold(t, inside(x.waits), x.line, want, inside(x.waits))
		hold(t, inside(x.waits, "x", "-", "F'"), x.line, want, inside(x.waits, "x", "-", "F'"))
	}
}

// P16.2, P16.3: several documents, in the order in which they were asked for.
func TestDocumentsInOrder(t *testing.T) {
	holdRows(t,
		row{"a <<A <<-B 'x\n", "open line 0, word 0 1, op 2 4, word 4 5, op 6 9, word 9 10, word 11 14", going('\'', "A", "-B")},
		row{"A\n", "word 0 2", going('\'', "A", "-B")},
		row{"' <<\"C\"\n", "word 0 1, op 2 4, word 4 7, close 7, open doc 8", inside("A", "-B", "C'")},
		row{"B\n", "text 0 2", inside("A", "-B", "C'")},
		row{"C\n", "text 0 2", inside("A", "-B", "C'")},
		row{"A\n", "delim 0 1, close 2, open doc 2", inside("-B", "C'")},
		row{"A\n", "text 0 2", inside("-B", "C'")},
		row{"\tB\n", "delim 1 2, close 3, open doc 3", inside("C'")},
		row{"\tC\n", "text 0 3", inside("C'")},
		row{"C\n", "delim 0 1, close 2", nothing},
		row{"C\n", "open line 0, word 0 1, close 1", nothing},
	)
}

// P16.4: what is told of a text's end.
func TestEnd(t *testing.T) {
	holdEnd(t, nothing, "")
	all := []string{"E", "-F'", "", "G"}
	line, more := "error 0 0, close 0", ""
	for n := range len(all) + 1 {
		for _, mark := range []byte{0, '\'', '"'} {
			holdEnd(t, going(mark, all[:n]...), line+more)
		}
		more += ", error 0 0"
	}
	more = ""
	for n := 1; n <= len(all); n++ {
		holdEnd(t, inside(all[:n]...), line+more)
		more += ", error 0 0"
	}
	// What is no state of the shell's counts as the zero state.
	for _, s := range []api.State{{Mode: 3}, {Mode: 2}, {Mode: 1, Flags: 1}, {Mode: 1, Wait: 5}, {Mode: 1, Mark: 'a'}} {
		holdEnd(t, s, "")
	}
}

// P16.2 to P16.4: what is told is new memory each time, spare room too; what is written there shows in no other answer.
func TestAnswersAreNew(t *testing.T) {
	spoil := func(l []api.Event) {
		for i := range l[:cap(l)] {
			l[:cap(l)][i] = api.Event{Op: 99, Kind: 99, At: -1, To: -1}
		}
	}
	line := "a <<b " + strings.Repeat("c;", 40) + "\n"
	ask := []func() []api.Event{
		func() []api.Event { l, _ := shdoc.Scan(nothing, line); return l },
		func() []api.Event { l, _ := shdoc.Scan(inside("E", "F"), "E\n"); return l },
		func() []api.Event { l, _ := shdoc.Scan(inside("E", "F"), "x\n"); return l },
		func() []api.Event { return shdoc.End(going(0, "E", "F", "G")) },
		func() []api.Event { return shdoc.End(inside("E", "F", "G", "H")) },
	}
	for i, f := range ask {
		want, first, second := slices.Clone(f()), f(), f()
		spoil(first)
		if !slices.Equal(second, want) || !slices.Equal(f(), want) {
			t.Errorf("what is written to the answer %d shows in another one", i)
		}
	}
}
