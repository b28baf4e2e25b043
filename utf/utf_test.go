package utf_test

import (
	"math"
	"testing"
	"unicode/utf8"

	"indenture/utf"
)

// edges are bytes at which what a character's bytes may be changes.
const edges = "\x00a\x7f\x80\x8f\x90\x9f\xa0\xbf\xc0\xc1\xc2\xdf\xe0\xe1\xec\xed\xee\xef\xf0\xf1\xf3\xf4\xf5\xf7\xf8\xff"

// words hands on every text of n bytes out of the given ones.
func words(bytes string, n int, do func(string)) {
	b := make([]byte, n)
	var fill func(int)
	fill = func(i int) {
		if i == n {
			do(string(b))
			return
		}
		for j := range len(bytes) {
			b[i] = bytes[j]
			fill(i + 1)
		}
	}
	fill(0)
}

// isChar is the document's word, told plainly.
func isChar(c int64) bool {
	return c >= 0 && c <= 0xd7ff || c >= 0xe000 && c <= 0x10ffff
}

// row are a character's bytes as the document's table has them, told by the numbers' digits to the base 64.
func row(c int32) string {
	last := func(part int32) byte { return byte(128 + part%64) }
	switch {
	case c <= 0x7f:
		return string([]byte{byte(c)})
	case c <= 0x7ff:
		return string([]byte{byte(192 + c/64), last(c)})
	case c <= 0xffff:
		return string([]byte{byte(224 + c/4096), last(c / 64), last(c)})
	}
	return string([]byte{byte(240 + c/262144), last(c / 4096), last(c / 64), last(c)})
}

// rows has the bytes of every character.
func rows() map[string]int32 {
	m := make(map[string]int32, 0x110000)
	for c := int32(0); c <= 0x10ffff; c++ {
		if isChar(int64(c)) {
			m[row(c)] = c
		}
	}
	return m
}

// begins has where the steps of s begin, and where it ends, found by going through it.
func begins(s string) (map[int]bool, int, bool) {
	at, count, valid := 0, 0, true
	m := map[int]bool{}
	for at < len(s) {
		m[at] = true
		r, n := utf8.DecodeRuneInString(s[at:])
		valid = valid && (r != utf8.RuneError || n == 3)
		at += n
		count++
	}
	m[len(s)] = true
	return m, count, valid
}

// P1.1: the examples, places that are none, and bytes behind and ahead that play no part.
func TestLenAndChar(t *testing.T) {
	for _, x := range []struct {
		s    string
		at   int
		n    int
		c    int32
		is   bool
		name string
	}{
		{"\xc3\xa9", 0, 2, 0xe9, true, "a character of two bytes"},
		{"\xc3\xa9", 1, 1, 0, false, "its second byte"},
		{"\xc3", 0, 1, 0, false, "a character that is cut off"},
		{"\xc3\xa9", 2, 0, 0, false, "the text's end"},
		{"\xc3\xa9", 3, 0, 0, false, "past the end"},
		{"a", -1, 0, 0, false, "below 0"},
		{"a", math.MinInt, 0, 0, false, "far below 0"},
		{"a", math.MaxInt, 0, 0, false, "far past the end"},
		{"", 0, 0, 0, false, "nothing"},
		{"\x00", 0, 1, 0, true, "the character 0"},
		{"\x7f", 0, 1, 0x7f, true, "the last one of one byte"},
		{"\x80", 0, 1, 0, false, "a lone later byte"},
		{"\xff", 0, 1, 0, false, "a byte that is never one of a character"},
		{"\xe2\x82\xac", 0, 3, 0x20ac, true, "a character of three bytes"},
		{"\xe2\x82\xac", 1, 1, 0, false, "its middle"},
		{"\xe2\x82", 0, 1, 0, false, "three bytes that are cut off"},
		{"\xe2\x82a", 0, 1, 0, false, "three bytes that are broken off"},
		{"\xf0\x9f\x98\x80", 0, 4, 0x1f600, true, "a character of four bytes"},
		{"\xf0\x9f\x98", 0, 1, 0, false, "four bytes that are cut off"},
		{"\xf4\x8f\xbf\xbf", 0, 4, 0x10ffff, true, "the last character"},
		{"\xf4\x90\x80\x80", 0, 1, 0, false, "one past it"},
		{"\xf8\x88\x80\x80\x80", 0, 1, 0, false, "five bytes"},
		{"\xed\x9f\xbf", 0, 3, 0xd7ff, true, "the last one ahead of the gap"},
		{"\xed\xa0\x80", 0, 1, 0, false, "the gap's first number"},
		{"\xed\xbf\xbf", 0, 1, 0, false, "the gap's last number"},
		{"\xee\x80\x80", 0, 3, 0xe000, true, "the first one behind the gap"},
		{"\xc0\x80", 0, 1, 0, false, "two bytes for what needs one"},
		{"\xc1\xbf", 0, 1, 0, false, "two bytes for the last that needs one"},
		{"\xe0\x9f\xbf", 0, 1, 0, false, "three bytes for what needs two"},
		{"\xf0\x8f\xbf\xbf", 0, 1, 0, false, "four bytes for what needs three"},
		{"\xe2\xc3\xa9", 1, 2, 0xe9, true, "behind a lone byte"},
		{"a\xc3\xa9b", 1, 2, 0xe9, true, "between others"},
	} {
		if n, is := utf.Len(x.s, x.at); n != x.n || is != x.is {
			t.Errorf("%s: Len(% x, %d) = %d, %v", x.name, x.s, x.at, n, is)
		}
		if c, is := utf.Char(x.s, x.at); c != x.c || is != x.is {
			t.Errorf("%s: Char(% x, %d) = %x, %v", x.name, x.s, x.at, c, is)
		}
	}
}

// P1.1: whatever bytes stand there, a character does just if it is written in the table so.
func TestLenAndCharOfAllBytes(t *testing.T) {
	table := rows()
	for n := 1; n <= 4; n++ {
		words(edges, n, func(s string) {
			wantN, wantC, want := 1, int32(0), false
			for k := 1; k <= n; k++ {
				if c, is := table[s[:k]]; is {
					wantN, wantC, want = k, c, true
				}
			}
			if m, is := utf.Len(s, 0); m != wantN || is != want {
				t.Fatalf("Len(% x, 0) = %d, %v", s, m, is)
			}
			if c, is := utf.Char(s, 0); c != wantC || is != want {
				t.Fatalf("Char(% x, 0) = %x, %v", s, c, is)
			}
		})
	}
}

// P1.1: so it is with all texts of one, two and three bytes, and with those of four that begin with each first byte.
func TestLenAndCharHeldAgainstTheLibrary(t *testing.T) {
	check := func(b []byte) {
		s := string(b)
		r, n := utf8.DecodeRuneInString(s)
		want := r != utf8.RuneError || n == 3
		if !want {
			r = 0
		}
		if m, is := utf.Len(s, 0); m != n || is != want {
			t.Fatalf("Len(% x, 0) = %d, %v", s, m, is)
		}
		if c, is := utf.Char(s, 0); c != r || is != want {
			t.Fatalf("Char(% x, 0) = %x, %v", s, c, is)
		}
	}
	for i := range 1 << 16 {
		a, b := byte(i>>8), byte(i)
		check([]byte{b})
		check([]byte{a, b})
		for j := range len(edges) {
			check([]byte{a, b, edges[j]})
			check([]byte{a, b, edges[j], 0x80})
			check([]byte{a, b, 0xbf, edges[j]})
		}
	}
}

// P1.2: the examples, and numbers that are no character.
func TestPut(t *testing.T) {
	if s, is := utf.Put(233); s != "\xc3\xa9" || !is {
		t.Errorf("Put(233) = % x, %v", s, is)
	}
	for _, c := range []int32{-1, -233, math.MinInt32, 0xd800, 0xdabc, 0xdfff, 0x110000, math.MaxInt32} {
		if s, is := utf.Put(c); s != "" || is {
			t.Errorf("Put(%x) = % x, %v", c, s, is)
		}
	}
}

// P1.2, P1.4: the bytes of each character are those of the table, and they tell it again.
func TestPutOfAll(t *testing.T) {
	for c := int32(-70000); c <= 0x120000; c++ {
		s, is := utf.Put(c)
		if is != isChar(int64(c)) {
			t.Fatalf("Put(%x) = % x, %v", c, s, is)
		}
		if !is {
			if s != "" {
				t.Fatalf("Put(%x) = % x, %v", c, s, is)
			}
			continue
		}
		if s != row(c) {
			t.Fatalf("Put(%x) = % x", c, s)
		}
		if d, is := utf.Char(s, 0); d != c || !is {
			t.Fatalf("Char of Put(%x) = %x, %v", c, d, is)
		}
		if n, is := utf.Len(s, 0); n != len(s) || !is {
			t.Fatalf("Len of Put(%x) = %d, %v", c, n, is)
		}
	}
}

// P1.3: the examples, and places that are none.
func TestStart(t *testing.T) {
	for _, x := range []struct {
		s    string
		at   int
		want bool
	}{
		{"\xc3\xa9", 0, true},
		{"\xc3\xa9", 1, false},
		{"\xc3\xa9", 2, true},
		{"\xc3\xa9", 3, false},
		{"\xc3\xa9", -1, false},
		{"\xc3\xa9", math.MinInt, false},
		{"\xc3\xa9", math.MaxInt, false},
		{"\xc3a", 1, true},
		{"\xc3\xa9\xa9", 2, true},
		{"\xe2\x82\xac", 2, false},
		{"\xe2\x82", 1, true},
		{"\xf0\x9f\x98\x80", 3, false},
		{"\xf0\x9f\x98\x80\x80", 4, true},
		{"\xed\xa0\x80", 1, true},
		{"", 0, true},
		{"", 1, false},
		{"", -1, false},
	} {
		if is := utf.Start(x.s, x.at); is != x.want {
			t.Errorf("Start(% x, %d) = %v", x.s, x.at, is)
		}
	}
}

// P1.3: the examples.
func TestCountAndValid(t *testing.T) {
	for _, x := range []struct {
		s     string
		n     int
		valid bool
	}{
		{"", 0, true},
		{"a", 1, true},
		{"\x00\n", 2, true},
		{"\xc3\xa9\xff", 2, false},
		{"\xc3\xa9", 1, true},
		{"\xff\xc3\xa9", 2, false},
		{"\xc3", 1, false},
		{"\xe2\x82", 2, false},
		{"\xc0\x80", 2, false},
		{"\xed\xa0\x80", 3, false},
		{"\xf4\x90\x80\x80", 4, false},
		{"a\xc3\xa9\xe2\x82\xac\xf0\x9f\x98\x80", 4, true},
	} {
		if n := utf.Count(x.s); n != x.n {
			t.Errorf("Count(% x) = %d", x.s, n)
		}
		if is := utf.Valid(x.s); is != x.valid {
			t.Errorf("Valid(% x) = %v", x.s, is)
		}
	}
}

// P1.3: of many texts, each of their places, and places about them, is what going through them tells.
func TestStepsOfManyTexts(t *testing.T) {
	for n := 0; n <= 6; n++ {
		words("a\x80\xa9\xc3\xe2\xed\xf0\xf4", n, func(s string) {
			m, count, valid := begins(s)
			for at := -2; at <= n+2; at++ {
				if is := utf.Start(s, at); is != m[at] {
					t.Fatalf("Start(% x, %d) = %v", s, at, is)
				}
			}
			if c := utf.Count(s); c != count {
				t.Fatalf("Count(% x) = %d", s, c)
			}
			if is := utf.Valid(s); is != valid {
				t.Fatalf("Valid(% x) = %v", s, is)
			}
		})
	}
}

// P1.4: steps lie one behind the other and are all of the text; Put of Char are the bytes; from a step's beginning on, steps are those of the rest by itself.
func TestStepsAreAllOfAText(t *testing.T) {
	for n := 0; n <= 4; n++ {
		words(edges, n, func(s string) {
			at, count := 0, 0
			for at < len(s) {
				if !utf.Start(s, at) {
					t.Fatalf("Start(% x, %d) = false", s, at)
				}
				if rest := utf.Count(s[at:]); count+rest != utf.Count(s) {
					t.Fatalf("Count(% x) = %d behind %d steps of % x", s[at:], rest, count, s)
				}
				k, is := utf.Len(s, at)
				for i := at + 1; i < at+k; i++ {
					if utf.Start(s, i) {
						t.Fatalf("Start(% x, %d) = true", s, i)
					}
				}
				if c, whole := utf.Char(s, at); whole != is || is && put(t, c) != s[at:at+k] {
					t.Fatalf("Char(% x, %d) = %x, %v", s, at, c, whole)
				}
				at += k
				count++
			}
			if at != len(s) || count != utf.Count(s) {
				t.Fatalf("% x: %d steps up to %d, Count %d", s, count, at, utf.Count(s))
			}
		})
	}
}

// put are a character's bytes.
func put(t *testing.T, c int32) string {
	s, is := utf.Put(c)
	if !is {
		t.Fatalf("Put(%x) = false", c)
	}
	return s
}

// P1.4: texts that are valid, put together, are, and their counts add up.
func TestTextsPutTogether(t *testing.T) {
	var valid []string
	for n := 0; n <= 4; n++ {
		words("a\x80\xa9\xbf\xc3\xe2\xed\xf0\xf4", n, func(s string) {
			if utf.Valid(s) {
				valid = append(valid, s)
			}
		})
	}
	if len(valid) < 20 {
		t.Fatalf("only %d texts are valid", len(valid))
	}
	for _, a := range valid {
		for _, b := range valid {
			if !utf.Valid(a + b) {
				t.Fatalf("Valid(% x % x) = false", a, b)
			}
			if n := utf.Count(a + b); n != utf.Count(a)+utf.Count(b) {
				t.Fatalf("Count(% x % x) = %d", a, b, n)
			}
		}
	}
}

// R2: what is asked of a text hangs on it alone, however often and in whatever order it is asked.
func TestAskingAgain(t *testing.T) {
	s := "a\xc3\xa9\xff\xe2\x82\xac"
	for range 3 {
		if utf.Count(s) != 4 || utf.Valid(s) || !utf.Valid(s[:3]) || utf.Start(s, 2) || !utf.Start(s, 4) {
			t.Fatal("asked again, another answer came")
		}
	}
}
