package tests

import (
	"fmt"
	"strings"
	"testing"

	"loop.example/g01045/impl"
)

// x returns a word of n bytes.
func x(n int) string { return strings.Repeat("x", n) }

// wordsOf returns the words of a text with single blanks between them.
func wordsOf(text string) []string { return strings.Split(text, " ") }

// quoted prints texts so that their blanks can be seen.
func quoted(list []string) string { return fmt.Sprintf("%q", list) }

// wordsAndWidth are words that are to be set in lines of a width.
type wordsAndWidth struct {
	words []string
	width int64
}

// rightWords returns words that can be set in their width.
func rightWords() []wordsAndWidth {
	return []wordsAndWidth{{nil, 1}, {nil, 80}, {[]string{}, 40}, {[]string{"!"}, 1}, {[]string{"~"}, 1}, {[]string{"!~"}, 2}, {[]string{x(80)}, 80}, {[]string{"a"}, 80}, {[]string{"a", "a"}, 1},
		{repeated("a", 39), 1}, {repeated("a", 40), 1}, {repeated("~", 40), 80}, {repeated(x(80), 40), 80}, {[]string{x(5), "a", x(6)}, 6}, {[]string{"'", "\"", "-"}, 2}}
}

// wrongWords returns words that cannot be set in their width.
func wrongWords() []wordsAndWidth {
	list := []wordsAndWidth{{repeated("a", 41), 1}, {repeated("a", 41), 80}, {repeated("", 41), 80}, {repeated("a", 100000), 80}, {[]string{x(81)}, 80}, {[]string{x(2)}, 1}, {[]string{x(7), "a"}, 6}, {[]string{"a", x(7)}, 6},
		{[]string{"a", x(7), "b"}, 6}, {append(repeated("a", 39), x(7)), 6}, {[]string{"a", x(100000)}, 80}, {[]string{x(80), x(80)}, 79}}
	for _, word := range []string{"", " ", "\x1f", "\x7f", "\x00", "\n", "\t", "\x80", "\xff", "é", "日", "a b", " a", "a ", "a\x7f", "\x7fa", "a\x1fb", "a\nb", "a\u00a0b"} {
		list = append(list, wordsAndWidth{[]string{word}, 80}, wordsAndWidth{[]string{word, "a"}, 10}, wordsAndWidth{[]string{"a", word}, 80}, wordsAndWidth{[]string{"a", word, "b"}, 10}, wordsAndWidth{append(repeated("a", 39), word), 80})
	}
	for _, width := range []int64{0, -1, 81, 82, -80, -1 << 63, 1<<63 - 1, 1 << 32, 1<<32 + 10} {
		list = append(list, wordsAndWidth{nil, width}, wordsAndWidth{[]string{"a"}, width}, wordsAndWidth{wordsOf("a bb c"), width}, wordsAndWidth{[]string{""}, width}, wordsAndWidth{repeated("a", 41), width})
	}
	return list
}

// wrongBreaks returns lists that are no breaks of n words.
func wrongBreaks(n int64) [][]int64 {
	list := [][]int64{{0}, {-1}, {n}, {n + 1}, {-1 << 63}, {1<<63 - 1}, {1 << 32}, {0, 1}, {1, 1}, {2, 2}, {2, 1}, {3, 2, 1}, {1, 3, 2}, {1, 2, 2}, {1, 1, 2}, {0, 1, 2}, {1, 0}, {1, 2, 0}, {1, -1}, {1, n}, {1, n - 1, n}, {n - 1, n}, {n - 1, n - 1}, {1, 1<<63 - 1}, make([]int64, 100000)}
	every := []int64{}
	for at := int64(1); at <= n; at++ {
		every = append(every, at)
	}
	return append(list, every) // with the number of words as its last one
}

func TestValidText(t *testing.T) {
	is(t, "limits", all(impl.MaxLine, impl.MaxWords), 80, 40)
	for _, c := range rightWords() {
		is(t, fmt.Sprint("words in ", c.width, ": ", len(c.words)), all(impl.ValidText(c.words, c.width)), true)
	}
	for _, c := range wrongWords() {
		is(t, fmt.Sprint("no words in ", c.width, ": ", len(c.words)), all(impl.ValidText(c.words, c.width)), false)
	}
	for c := range 256 {
		word := string([]byte{byte(c)})
		for _, words := range [][]string{{word}, {"a", word}, {"a" + word}, {word + "a"}} {
			is(t, fmt.Sprintf("the byte %d", c), all(impl.ValidText(words, 2)), c >= 33 && c <= 126)
		}
	}
	for width := int64(-2); width <= 83; width++ {
		for n := range 90 {
			is(t, fmt.Sprint("a word of ", n, " bytes in ", width), all(impl.ValidText([]string{x(n)}, width)), width >= 1 && width <= 80 && n >= 1 && int64(n) <= width)
		}
	}
}

func TestFirstBreaks(t *testing.T) {
	for _, c := range []struct {
		name  string
		words []string
		width int64
		want  []int64
	}{
		{"the given example", wordsOf("aaa bb cc ddddd"), 6, []int64{2, 3}},
		{"no words", nil, 6, nil},
		{"one word", wordsOf("a"), 6, nil},
		{"one word that fills a line", wordsOf("aaaaaa"), 6, nil},
		{"all words fit exactly", wordsOf("a bb c"), 6, nil},
		{"all words are one byte too long", wordsOf("a bb c"), 5, []int64{2}},
		{"the first line fits exactly", wordsOf("aa bbb c"), 6, []int64{2}},
		{"the first line would be one byte too long", wordsOf("aa bbb c"), 5, []int64{1}},
		{"each word fills a line", wordsOf("aaa bbb ccc"), 3, []int64{1, 2}},
		{"each word nearly fills a line", wordsOf("aa bb cc"), 3, []int64{1, 2}},
		{"the width 1", wordsOf("a b c"), 1, []int64{1, 2}},
		{"the width 2", wordsOf("a b c"), 2, []int64{1, 2}},
		{"the width 3", wordsOf("a b c"), 3, []int64{2}},
		{"the most words, each on its line", repeated("a", 40), 1, upTo(39)},
		{"the most words on the widest line", repeated("a", 40), 80, nil},
		{"the most words that just fit on one line", repeated("a", 40), 79, nil},
		{"the last one of the most words does not fit", repeated("a", 40), 78, []int64{39}},
		{"the widest words", repeated(x(80), 40), 80, upTo(39)},
	} {
		breaks, code := impl.FirstBreaks(c.words, c.width)
		is(t, c.name, all(breaks, code), c.want, impl.OK)
		few, code := impl.FewestLines(c.words, c.width)
		want := len(c.want) + 1
		if len(c.words) == 0 {
			want = 0
		}
		is(t, "the fewest lines, "+c.name, all(few, code), want, impl.OK)
	}
}

// upTo returns the numbers from 1 to n.
func upTo(n int64) []int64 {
	var list []int64
	for at := range n {
		list = append(list, at+1)
	}
	return list
}

func TestBadnessOf(t *testing.T) {
	for _, c := range []struct {
		name   string
		words  []string
		width  int64
		breaks []int64
		want   int64
		code   int64
	}{
		{"the given example", wordsOf("aaa bb cc ddddd"), 6, []int64{2, 3}, 16, impl.OK},
		{"the best breaks of the given example", wordsOf("aaa bb cc ddddd"), 6, []int64{1, 3}, 10, impl.OK},
		{"no words", nil, 6, nil, 0, impl.OK},
		{"one word", wordsOf("a"), 6, nil, 0, impl.OK},
		{"only the last line", wordsOf("a b"), 80, nil, 0, impl.OK},
		{"what the last line wastes does not count", wordsOf("aaaaaa b"), 6, []int64{1}, 0, impl.OK},
		{"what the last line but one wastes counts", wordsOf("b aaaaaa"), 6, []int64{1}, 25, impl.OK},
		{"the sum of the squares", wordsOf("a bb ccc dddd"), 6, []int64{1, 2, 3}, 25 + 16 + 9, impl.OK},
		{"a blank is no waste", wordsOf("a b c"), 6, []int64{2}, 9, impl.OK},
		{"lines without waste", wordsOf("aa bbb cccccc d"), 6, []int64{2, 3}, 0, impl.OK},
		{"as many breaks as words less one", wordsOf("a b c d"), 1, []int64{1, 2, 3}, 0, impl.OK},
		{"the greatest badness", repeated("a", 40), 80, upTo(39), 39 * 79 * 79, impl.OK},
		{"a line that fits exactly", wordsOf("a bb c"), 6, nil, 0, impl.OK},
		{"the last line is one byte too long", wordsOf("a bb c"), 5, nil, 0, impl.ErrFull},
		{"the last line of two is one byte too long", wordsOf("aaaaa a bb c"), 5, []int64{1}, 0, impl.ErrFull},
		{"the first line of two is one byte too long", wordsOf("a bb c aaaaa"), 5, []int64{3}, 0, impl.ErrFull},
		{"a line in the middle is one byte too long", wordsOf("a aa bbb a"), 5, []int64{1, 3}, 0, impl.ErrFull},
		{"that line fits exactly", wordsOf("a aa bbb a"), 6, []int64{1, 3}, 25, impl.OK},
		{"no breaks of many words", repeated("a", 40), 78, nil, 0, impl.ErrFull},
		{"no breaks of as many words as fit", repeated("a", 40), 79, nil, 0, impl.OK},
		{"two words that do not fit together", wordsOf("aaa bb cc ddddd"), 6, []int64{3}, 0, impl.ErrFull},
		{"a break in front of the last word", wordsOf("a b c"), 3, []int64{2}, 0, impl.OK},
	} {
		badness, code := impl.BadnessOf(c.words, c.width, c.breaks)
		is(t, c.name, all(badness, code), c.want, c.code)
		if text, code := impl.SetText(c.words, c.width, c.breaks); code != c.code {
			t.Errorf("SetText, %s: got %q and %d, want %d", c.name, text, code, c.code)
		}
	}
}

func TestBestBreaks(t *testing.T) {
	for _, c := range []struct {
		name    string
		words   []string
		width   int64
		want    []int64
		badness int64
	}{
		{"the given example", wordsOf("aaa bb cc ddddd"), 6, []int64{1, 3}, 10},
		{"no words", nil, 6, nil, 0},
		{"one word", wordsOf("a"), 80, nil, 0},
		{"all words fit exactly", wordsOf("a bb c"), 6, nil, 0},
		{"breaks that are not needed make it worse", wordsOf("a b c d"), 80, nil, 0},
		{"the last line may be short", wordsOf("aaa bb c"), 6, []int64{2}, 0},
		{"two breaks with the same badness, of which the first one is asked", wordsOf("aa b cc dddddd"), 6, []int64{1, 3}, 20},
		{"the same in the middle of a text", wordsOf("xxxxxx aa b cc dddddd"), 6, []int64{1, 2, 4}, 20},
		{"the same twice", wordsOf("aa b cc dddddd aa b cc dddddd"), 6, []int64{1, 3, 4, 5, 7}, 40},
		{"the first ones, although 2, 4 and 6 are fewer and have the same badness", wordsOf("aaaaa b ccc ddd ee f ggggg h"), 7, []int64{1, 3, 5, 7}, 9},
		{"the same in front of a full line", wordsOf("aa b cc dddddd e"), 6, []int64{1, 3, 4}, 20},
		{"each word on its line", repeated("a", 40), 1, upTo(39), 0},
		{"each word on its line, with waste", repeated("a", 40), 2, upTo(39), 39},
		{"the most words on one line", repeated("a", 40), 79, nil, 0},
		{"the most words on two lines", repeated("a", 40), 78, []int64{39}, 1},
		{"the widest words", repeated(x(80), 40), 80, upTo(39), 0},
		{"the first line as full as it can be", repeated("a", 40), 41, []int64{21}, 0},
	} {
		breaks, badness, code := impl.BestBreaks(c.words, c.width)
		is(t, c.name, all(breaks, badness, code), c.want, c.badness, impl.OK)
		told, code := impl.BadnessOf(c.words, c.width, breaks)
		is(t, "the badness, "+c.name, all(told, code), c.badness, impl.OK)
	}
	// The other breaks of which it is said above that they are as good, but do not come first.
	for _, c := range []struct {
		words   []string
		width   int64
		breaks  []int64
		badness int64
	}{
		{wordsOf("aa b cc dddddd"), 6, []int64{2, 3}, 20},
		{wordsOf("aa b cc dddddd e"), 6, []int64{2, 3, 4}, 20},
		{wordsOf("aaaaa b ccc ddd ee f ggggg h"), 7, []int64{2, 4, 6}, 9},
	} {
		badness, code := impl.BadnessOf(c.words, c.width, c.breaks)
		is(t, fmt.Sprint("the breaks ", c.breaks), all(badness, code), c.badness, impl.OK)
	}
	// Breaks that are the beginning of others: both fit.
	for breaks, want := range map[string]int64{"": 0, "1": 25, "2": 9, "12": 50} {
		var list []int64
		for _, c := range breaks {
			list = append(list, int64(c-'0'))
		}
		badness, code := impl.BadnessOf(wordsOf("a b c"), 6, list)
		is(t, "the breaks "+breaks, all(badness, code), want, impl.OK)
	}
	breaks, badness, code := impl.BestBreaks(wordsOf("a b c"), 6)
	is(t, "no breaks come first", all(breaks, badness, code), []int64{}, 0, impl.OK)
}

func TestSetLine(t *testing.T) {
	for _, c := range []struct {
		name  string
		words []string
		width int64
		want  string
		code  int64
	}{
		{"the given example, exactly", wordsOf("a bb c"), 6, "a bb c", impl.OK},
		{"the given example, equal gaps", wordsOf("a bb c"), 8, "a  bb  c", impl.OK},
		{"unequal gaps", wordsOf("a bb c"), 7, "a  bb c", impl.OK},
		{"unequal gaps that are wide", wordsOf("a bb c"), 11, "a    bb   c", impl.OK},
		{"one wider gap of three", wordsOf("a b c d"), 8, "a  b c d", impl.OK},
		{"two wider gaps of three", wordsOf("a b c d"), 9, "a  b  c d", impl.OK},
		{"three equal gaps", wordsOf("a b c d"), 10, "a  b  c  d", impl.OK},
		{"two words", wordsOf("a b"), 6, "a    b", impl.OK},
		{"two words that fit exactly", wordsOf("a b"), 3, "a b", impl.OK},
		{"one byte too long", wordsOf("a bb c"), 5, "", impl.ErrFull},
		{"much too long", repeated(x(80), 40), 80, "", impl.ErrFull},
		{"two words in the width 2", wordsOf("a b"), 2, "", impl.ErrFull},
		{"a single word", wordsOf("ab"), 5, "ab   ", impl.OK},
		{"a single word of exactly the width", wordsOf("abcde"), 5, "abcde", impl.OK},
		{"a single word, one byte less", wordsOf("abcd"), 5, "abcd ", impl.OK},
		{"a single byte", wordsOf("a"), 1, "a", impl.OK},
		{"a single byte on the widest line", wordsOf("a"), 80, "a" + strings.Repeat(" ", 79), impl.OK},
		{"the widest word", []string{x(80)}, 80, x(80), impl.OK},
		{"no words", nil, 5, "", impl.ErrNotFound},
		{"an empty list", []string{}, 1, "", impl.ErrNotFound},
		{"the most words, exactly", repeated("a", 40), 79, strings.Join(repeated("a", 40), " "), impl.OK},
		{"the most words, one blank more", repeated("a", 40), 80, "a  " + strings.Join(repeated("a", 39), " "), impl.OK},
		{"the most words, one byte too long", repeated("a", 40), 78, "", impl.ErrFull},
	} {
		line, code := impl.SetLine(c.words, c.width)
		is(t, c.name, all(quoted([]string{line}), code), quoted([]string{c.want}), c.code)
	}
}

func TestSetText(t *testing.T) {
	for _, c := range []struct {
		name   string
		words  []string
		width  int64
		breaks []int64
		want   []string
	}{
		{"the given example", wordsOf("aaa bb cc ddddd"), 6, []int64{1, 3}, []string{"aaa   ", "bb  cc", "ddddd"}},
		{"no words", nil, 6, nil, nil},
		{"a single word as the last line", wordsOf("a"), 6, nil, []string{"a"}},
		{"the last line has single blanks", wordsOf("a bb c"), 80, nil, []string{"a bb c"}},
		{"the last line of two", wordsOf("a b c d"), 6, []int64{2}, []string{"a    b", "c d"}},
		{"lines of single words", wordsOf("a bb ccc"), 3, []int64{1, 2}, []string{"a  ", "bb ", "ccc"}},
		{"wider gaps on the left", wordsOf("a b c d"), 6, []int64{3}, []string{"a  b c", "d"}},
		{"lines that fit exactly", wordsOf("a b c d"), 3, []int64{2}, []string{"a b", "c d"}},
		{"the width 1", wordsOf("a b c"), 1, []int64{1, 2}, []string{"a", "b", "c"}},
		{"the most lines", repeated("a", 40), 2, upTo(39), append(repeated("a ", 39), "a")},
		{"the widest lines", repeated(x(39), 5), 80, []int64{2, 4}, []string{x(39) + "  " + x(39), x(39) + "  " + x(39), x(39)}},
	} {
		lines, code := impl.SetText(c.words, c.width, c.breaks)
		is(t, c.name, all(quoted(lines), code), quoted(c.want), impl.OK)
	}
}

// The order of errors: ErrInvalid before ErrRange before ErrFull and ErrNotFound, each for the complete argument.
func TestWrongWords(t *testing.T) {
	for _, c := range wrongWords() {
		breaks, code := impl.FirstBreaks(c.words, c.width)
		is(t, "FirstBreaks", all(breaks, code), []int64{}, impl.ErrInvalid)
		breaks, badness, code := impl.BestBreaks(c.words, c.width)
		is(t, "BestBreaks", all(breaks, badness, code), []int64{}, 0, impl.ErrInvalid)
		few, code := impl.FewestLines(c.words, c.width)
		is(t, "FewestLines", all(few, code), 0, impl.ErrInvalid)
		line, code := impl.SetLine(c.words, c.width)
		is(t, "SetLine", all(line, code), "", impl.ErrInvalid)
		for _, b := range append(wrongBreaks(int64(len(c.words))), nil, []int64{1}) {
			badness, code := impl.BadnessOf(c.words, c.width, b)
			is(t, "BadnessOf", all(badness, code), 0, impl.ErrInvalid)
			lines, code := impl.SetText(c.words, c.width, b)
			is(t, "SetText", all(lines, code), []string{}, impl.ErrInvalid)
		}
	}
}

func TestWrongBreaks(t *testing.T) {
	// Not all of these words fit on one line, or on two: that is not looked at.
	for _, words := range [][]string{nil, {"a"}, {x(6)}, wordsOf("a b"), wordsOf("aaaa bbb"), wordsOf("a b c"), wordsOf("aaa bb cc ddddd"), repeated("a", 40), repeated(x(6), 40)} {
		for _, breaks := range wrongBreaks(int64(len(words))) {
			if len(breaks) == 0 { // of no words, these are the breaks
				continue
			}
			name := fmt.Sprint(len(words), " words and the breaks ", breaks[:min(5, len(breaks))])
			badness, code := impl.BadnessOf(words, 6, breaks)
			is(t, "BadnessOf, "+name, all(badness, code), 0, impl.ErrRange)
			lines, code := impl.SetText(words, 6, breaks)
			is(t, "SetText, "+name, all(lines, code), []string{}, impl.ErrRange)
		}
	}
}

func TestLeastWidth(t *testing.T) {
	for _, c := range []struct {
		name  string
		words []string
		lines int64
		want  int64
		code  int64
	}{
		{"the given example", wordsOf("aaa bb cc ddddd"), 3, 5, impl.OK},
		{"two lines", wordsOf("aaa bb cc ddddd"), 2, 8, impl.OK},
		{"one line", wordsOf("aaa bb cc ddddd"), 1, 15, impl.OK},
		{"more lines than words", wordsOf("aaa bb cc ddddd"), 40, 5, impl.OK},
		{"no words", nil, 1, 1, impl.OK},
		{"no words and the most lines", []string{}, 40, 1, impl.OK},
		{"one byte", wordsOf("a"), 1, 1, impl.OK},
		{"one word", wordsOf("abcde"), 1, 5, impl.OK},
		{"just the longest word", wordsOf("a bb ccc"), 2, 4, impl.OK},
		{"just the longest word, which is the first one", wordsOf("ccc a b"), 2, 3, impl.OK},
		{"the widest word", []string{"a", x(80)}, 2, 80, impl.OK},
		{"the widest word on the only line", []string{x(80)}, 1, 80, impl.OK},
		{"just MaxLine", []string{x(40), x(39)}, 1, 80, impl.OK},
		{"one more than MaxLine", []string{x(40), x(40)}, 1, 0, impl.ErrFull},
		{"one more than MaxLine, on two lines", []string{x(40), x(40)}, 2, 40, impl.OK},
		{"the widest words", repeated(x(80), 40), 40, 80, impl.OK},
		{"the widest words, one line less", repeated(x(80), 40), 39, 0, impl.ErrFull},
		{"the most words on one line", repeated("a", 40), 1, 79, impl.OK},
		{"the most words on as many lines", repeated("a", 40), 40, 1, impl.OK},
		{"the most words on one line less", repeated("a", 40), 39, 3, impl.OK},
		{"the most words that are too long for one line", append(repeated("a", 39), "bbb"), 1, 0, impl.ErrFull},
	} {
		width, code := impl.LeastWidth(c.words, c.lines)
		is(t, c.name, all(width, code), c.want, c.code)
	}
	for _, lines := range []int64{0, -1, 41, 42, -1 << 63, 1<<63 - 1, 1<<32 + 1} {
		for _, words := range [][]string{nil, {"a"}, wordsOf("aaa bb cc ddddd"), repeated("a", 40), repeated(x(80), 40)} {
			width, code := impl.LeastWidth(words, lines)
			is(t, fmt.Sprint("wrong lines ", lines), all(width, code), 0, impl.ErrRange)
		}
	}
	for _, c := range wrongWords() {
		if impl.ValidText(c.words, 80) {
			continue
		}
		for _, lines := range []int64{0, 1, 40, 41, -1} {
			width, code := impl.LeastWidth(c.words, lines)
			is(t, "words that cannot be set", all(width, code), 0, impl.ErrInvalid)
		}
	}
}

func TestWordsOfLines(t *testing.T) {
	for _, c := range []struct {
		name        string
		lines, want []string
	}{
		{"the given example", []string{"aaa   ", "bb  cc", "ddddd"}, wordsOf("aaa bb cc ddddd")},
		{"no lines", nil, nil},
		{"an empty list", []string{}, nil},
		{"a line of no byte", []string{""}, nil},
		{"lines of no byte", []string{"", "", ""}, nil},
		{"a blank", []string{" "}, nil},
		{"a line of blanks", []string{strings.Repeat(" ", 80)}, nil},
		{"a word", []string{"a"}, []string{"a"}},
		{"blanks at the beginning", []string{"   a"}, []string{"a"}},
		{"blanks at the end", []string{"a   "}, []string{"a"}},
		{"blanks between words", []string{"a   bb c"}, []string{"a", "bb", "c"}},
		{"blanks everywhere", []string{"  a   bb  ", "", " c "}, []string{"a", "bb", "c"}},
		{"no blank between lines", []string{"ab", "cd"}, []string{"ab", "cd"}},
		{"the same word again", []string{"a a", "a"}, []string{"a", "a", "a"}},
		{"the bytes 32, 33 and 126", []string{"! ~"}, []string{"!", "~"}},
		{"a line of MaxLine bytes", []string{x(80)}, []string{x(80)}},
		{"a line of MaxLine bytes with blanks", []string{" " + x(78) + " "}, []string{x(78)}},
		{"MaxWords lines", repeated("a", 40), repeated("a", 40)},
		{"MaxWords lines of no byte", repeated("", 40), nil},
		{"more than MaxWords words", repeated("a b", 21), strings.Fields(strings.Repeat("a b ", 21))},
		{"the most words", repeated(strings.Repeat("a ", 40), 40), repeated("a", 1600)},
		{"the most bytes", repeated(x(80), 40), repeated(x(80), 40)},
	} {
		words, code := impl.WordsOfLines(c.lines)
		is(t, c.name, all(quoted(words), code), quoted(c.want), impl.OK)
	}
}

func TestWrongLines(t *testing.T) {
	lists := [][]string{repeated("", 41), repeated("a", 41), repeated("a", 100000), repeated("\x7f", 41)}
	for _, line := range []string{x(81), strings.Repeat(" ", 81), x(100000), "\x1f", "\x7f", "\x00", "\n", "\t", "\r", "\v", "\f", "\x80", "\x85", "\xa0", "\xff", "é", "日", "\u00a0", "\u2003", "a\tb", "a\nb", "a \x7f", "\x1f a", "a b\x7f"} {
		lists = append(lists, []string{line}, []string{"a", line}, []string{line, "a"}, []string{"a", line, "b"}, append(repeated("a", 39), line))
	}
	for _, lines := range lists {
		words, code := impl.WordsOfLines(lines)
		is(t, fmt.Sprintf("lines with %.20q", lines[len(lines)-1]), all(words, code), []string{}, impl.ErrRange)
	}
	for c := range 256 {
		line := "a" + string([]byte{byte(c)}) + "b"
		words, code := impl.WordsOfLines([]string{line})
		want := all(quoted([]string{line}), impl.OK)
		if c == 32 {
			want = all(quoted([]string{"a", "b"}), impl.OK)
		} else if c < 32 || c > 126 {
			want = all(quoted(nil), impl.ErrRange)
		}
		is(t, fmt.Sprintf("the byte %d", c), all(quoted(words), code), want...)
	}
}
