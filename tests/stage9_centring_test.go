package tests

import (
	"fmt"
	"strings"
	"testing"

	"loop.example/g01045/impl"
)

// gap returns a text of n blanks.
func gap(n int) string { return strings.Repeat(" ", n) }

// one prints a text so that its blanks can be seen.
func one(text string) string { return fmt.Sprintf("%q", text) }

// rightSettings returns settings of all sorts.
func rightSettings() []string {
	return []string{"", "!", "~", "a", "_", "ab", "!~", "a b", "~ !", "a  b", "a" + gap(98) + "b", "ink", "abcd", "a b c", x(49), x(50), x(51), x(96), x(97), x(98), x(99), x(100), strings.Repeat("a ", 49) + "a", strings.Repeat("a ", 49) + "ab"}
}

// blankEnds returns texts that are no settings only because they begin or end with a blank.
func blankEnds() []string {
	return []string{" ", "  ", "   ", gap(99), gap(100), " a", "a ", " a ", "  a", "a  ", " a b", "a b ", " " + x(99), x(99) + " ", " " + x(98) + " ", "a" + gap(99), gap(99) + "a"}
}

// noCentreLines returns texts that are neither settings nor lines.
func noCentreLines() []string {
	list := []string{x(101), gap(101), " " + x(100), x(100) + " ", "a" + gap(99) + "b", x(102), x(100000), "é", "日", "a\u00a0b", "\u2003", "a\tb", "a\nb", "a\x1f", "\x1fa", "a\x7f", "\x7fa", "a \x1f b", "a \x7f b", x(99) + "\x7f", x(99) + "\x1f", x(100) + "\x7f"}
	for _, c := range []byte{0, 9, 10, 11, 12, 13, 31, 127, 128, 133, 160, 255} {
		list = append(list, string([]byte{c}), string([]byte{'a', c, 'a'}))
	}
	return list
}

// noSettings returns texts that are no settings.
func noSettings() []string { return append(noCentreLines(), blankEnds()...) }

// noCentreWidths returns numbers that are no widths.
func noCentreWidths() []int64 {
	return []int64{0, -1, 101, 102, -100, -1 << 63, 1<<63 - 1, 1 << 32, 1<<32 + 10}
}

// noHeights returns numbers that are no heights of pages.
func noHeights() []int64 {
	return []int64{0, -1, 31, 32, 100, -30, -1 << 63, 1<<63 - 1, 1 << 32, 1<<32 + 5}
}

// inLists returns lists of lines that have a line at different places.
func inLists(line string) [][]string {
	return [][]string{{line}, {"a", line}, {line, "a"}, {"a", line, "b"}, append(repeated("a", 29), line), append([]string{line}, repeated("a", 29)...)}
}

// noBlocks returns lists that are no lines as a block has them.
func noBlocks() [][]string {
	lists := [][]string{repeated("", 31), repeated("a", 31), repeated(x(100), 31), repeated(" ", 31), repeated("a", 100000), repeated("\x7f", 31)}
	for _, line := range noCentreLines() {
		lists = append(lists, inLists(line)...)
	}
	return lists
}

func TestLimitsOfCentring(t *testing.T) {
	is(t, "limits", all(impl.MaxCentre, impl.MaxBlock), 100, 30)
}

func TestCentreAndRightText(t *testing.T) {
	for _, c := range []struct {
		name          string
		text          string
		width         int64
		centre, right string
		code          int64
	}{
		{"an odd rest", "ink", 10, gap(3) + "ink", gap(7) + "ink", impl.OK},
		{"an even rest", "ink", 9, gap(3) + "ink", gap(6) + "ink", impl.OK},
		{"the next odd rest", "ink", 8, gap(2) + "ink", gap(5) + "ink", impl.OK},
		{"a rest of 3", "ink", 6, " ink", gap(3) + "ink", impl.OK},
		{"a rest of 2", "ink", 5, " ink", "  ink", impl.OK},
		{"a rest of 1", "ink", 4, "ink", " ink", impl.OK},
		{"exactly the width", "ink", 3, "ink", "ink", impl.OK},
		{"one byte more", "ink", 2, "", "", impl.ErrFull},
		{"two bytes more", "ink", 1, "", "", impl.ErrFull},
		{"blanks within", "a  b", 7, " a  b", "   a  b", impl.OK},
		{"one byte", "a", 1, "a", "a", impl.OK},
		{"one byte in a width of 2", "a", 2, "a", " a", impl.OK},
		{"one byte in a width of 3", "a", 3, " a", "  a", impl.OK},
		{"one byte in the greatest width", "~", 100, gap(49) + "~", gap(99) + "~", impl.OK},
		{"two bytes in the greatest width", "!~", 100, gap(49) + "!~", gap(98) + "!~", impl.OK},
		{"two bytes in the width 1", "ab", 1, "", "", impl.ErrFull},
		{"no byte in the width 1", "", 1, "", " ", impl.OK},
		{"no byte in the width 2", "", 2, " ", "  ", impl.OK},
		{"no byte in the width 3", "", 3, " ", "   ", impl.OK},
		{"no byte in the greatest width", "", 100, gap(50), gap(100), impl.OK},
		{"the longest text", x(100), 100, x(100), x(100), impl.OK},
		{"the longest text, one byte more than the width", x(100), 99, "", "", impl.ErrFull},
		{"the longest text in the width 1", x(100), 1, "", "", impl.ErrFull},
		{"one byte less", x(99), 100, x(99), " " + x(99), impl.OK},
		{"two bytes less", x(98), 100, " " + x(98), "  " + x(98), impl.OK},
		{"the longest text with blanks", "a" + gap(98) + "b", 100, "a" + gap(98) + "b", "a" + gap(98) + "b", impl.OK},
	} {
		line, code := impl.CentreText(c.text, c.width)
		is(t, "CentreText, "+c.name, all(one(line), code), one(c.centre), c.code)
		line, code = impl.RightText(c.text, c.width)
		is(t, "RightText, "+c.name, all(one(line), code), one(c.right), c.code)
	}
}

func TestSpreadText(t *testing.T) {
	for _, c := range []struct {
		name, text, want string
		code             int64
	}{
		{"a blank within", "a bc", "a   b c", impl.OK},
		{"two blanks within", "a  b", "a     b", impl.OK},
		{"three letters", "ink", "i n k", impl.OK},
		{"no byte", "", "", impl.OK},
		{"one byte", "a", "a", impl.OK},
		{"two bytes", "ab", "a b", impl.OK},
		{"the least and the greatest byte", "!~", "! ~", impl.OK},
		{"the longest text that can be spread", x(50), strings.Repeat("x ", 49) + "x", impl.OK},
		{"the same with blanks", "a" + gap(48) + "b", "a" + gap(97) + "b", impl.OK},
		{"one byte more", x(51), "", impl.ErrFull},
		{"one blank more", "a" + gap(49) + "b", "", impl.ErrFull},
		{"two bytes more", x(52), "", impl.ErrFull},
		{"one byte less", x(49), strings.Repeat("x ", 48) + "x", impl.OK},
		{"the longest text", x(100), "", impl.ErrFull},
	} {
		spread, code := impl.SpreadText(c.text)
		is(t, c.name, all(one(spread), code), one(c.want), c.code)
	}
}

func TestJoinSpread(t *testing.T) {
	for _, c := range []struct {
		name, text, want string
		code             int64
	}{
		{"a blank within", "a   b c", "a bc", impl.OK},
		{"two blanks within", "a     b", "a  b", impl.OK},
		{"a blank at each odd index", "i n k", "ink", impl.OK},
		{"no byte", "", "", impl.OK},
		{"one byte", "a", "a", impl.OK},
		{"two letters", "a b", "ab", impl.OK},
		{"the longest spread text", strings.Repeat("x ", 49) + "x", x(50), impl.OK},
		{"the longest spread text, blanks within", "a" + gap(97) + "b", "a" + gap(48) + "b", impl.OK},
		{"one byte more, at an odd index", strings.Repeat("x ", 49) + "xy", "", impl.ErrFormat},
		{"the longest text", x(100), "", impl.ErrFormat},
		{"the longest text with blanks", "a" + gap(98) + "b", "", impl.ErrFormat},
		{"another byte at the first odd index", "ab", "", impl.ErrFormat},
		{"the same, and others behind it", "ab c d", "", impl.ErrFormat},
		{"another byte at the last odd index", "a b cd", "", impl.ErrFormat},
		{"the same in front of another byte", "a b cde", "", impl.ErrFormat},
		{"another byte in the middle", "a bcd e", "", impl.ErrFormat},
		{"two blanks between two letters", "a  b", "", impl.ErrFormat},
		{"the least letter at an odd index", "a!b", "", impl.ErrFormat},
		{"the greatest letter at an odd index", "a~b", "", impl.ErrFormat},
		{"no blanks", "abc", "", impl.ErrFormat},
		{"a blank at each even index but for the first and the last one", "ab c d e", "", impl.ErrFormat},
	} {
		joined, code := impl.JoinSpread(c.text)
		is(t, c.name, all(one(joined), code), one(c.want), c.code)
	}
}

func TestUnderlineText(t *testing.T) {
	for text, want := range map[string]string{
		"":                             "",
		"a":                            "_",
		"_":                            "_",
		"!~":                           "__",
		"a bc":                         "_ __",
		"a  b":                         "_  _",
		"a b c":                        "_ _ _",
		"-- --":                        "__ __",
		x(100):                         strings.Repeat("_", 100),
		"a" + gap(98) + "b":            "_" + gap(98) + "_",
		strings.Repeat("y ", 49) + "y": strings.Repeat("_ ", 49) + "_",
	} {
		line, code := impl.UnderlineText(text)
		is(t, "under "+one(text), all(one(line), code), one(want), impl.OK)
	}
}

func TestRuleLine(t *testing.T) {
	for c := range 256 {
		letter := string([]byte{byte(c)})
		for _, width := range []int{1, 2, 99, 100} {
			rule, code := impl.RuleLine(letter, int64(width))
			want := all(one(strings.Repeat(letter, width)), impl.OK)
			if c < 33 || c > 126 {
				want = all(one(""), impl.ErrRange)
			}
			is(t, fmt.Sprint("a rule of the byte ", c, " and the width ", width), all(one(rule), code), want...)
		}
	}
	for _, letter := range []string{"", "==", "= ", " =", "=\x7f", "é", "日", "--", x(100), x(100000)} {
		rule, code := impl.RuleLine(letter, 4)
		is(t, "no letter: "+one(letter), all(one(rule), code), one(""), impl.ErrRange)
	}
	for _, width := range noCentreWidths() {
		rule, code := impl.RuleLine("=", width)
		is(t, fmt.Sprint("a rule of the width ", width), all(one(rule), code), one(""), impl.ErrRange)
	}
}

func TestBoxLines(t *testing.T) {
	edge := func(n int) string { return "+" + strings.Repeat("-", n) + "+" }
	for _, c := range []struct {
		name  string
		lines []string
		want  []string
		code  int64
	}{
		{"no lines", nil, []string{"+--+", "+--+"}, impl.OK},
		{"an empty list", []string{}, []string{"+--+", "+--+"}, impl.OK},
		{"an empty line", []string{""}, []string{"+--+", "|  |", "+--+"}, impl.OK},
		{"empty lines", []string{"", "", ""}, []string{"+--+", "|  |", "|  |", "|  |", "+--+"}, impl.OK},
		{"one byte", []string{"a"}, []string{"+---+", "| a |", "+---+"}, impl.OK},
		{"lines of the same length", []string{"ab", "cd"}, []string{"+----+", "| ab |", "| cd |", "+----+"}, impl.OK},
		{"the longest line is the last one", []string{"ink", "ribbon"}, []string{"+--------+", "| ink    |", "| ribbon |", "+--------+"}, impl.OK},
		{"the longest line is the first one", []string{"ribbon", "ink"}, []string{"+--------+", "| ribbon |", "| ink    |", "+--------+"}, impl.OK},
		{"the longest line is in the middle, beside an empty one", []string{"", "ink", "a"}, []string{"+-----+", "|     |", "| ink |", "| a   |", "+-----+"}, impl.OK},
		{"lines that begin or end with blanks", []string{" a", "b  ", "  c "}, []string{"+------+", "|  a   |", "| b    |", "|   c  |", "+------+"}, impl.OK},
		{"blanks only", []string{"  ", " ", ""}, []string{"+----+", "|    |", "|    |", "|    |", "+----+"}, impl.OK},
		{"bars and rules", []string{"|", "+-+"}, []string{"+-----+", "| |   |", "| +-+ |", "+-----+"}, impl.OK},
		{"exactly the greatest length", []string{x(96)}, []string{edge(98), "| " + x(96) + " |", edge(98)}, impl.OK},
		{"exactly the greatest length, and a shorter line", []string{"a", x(96)}, []string{edge(98), "| a" + gap(95) + " |", "| " + x(96) + " |", edge(98)}, impl.OK},
		{"one byte less", []string{x(95)}, []string{edge(97), "| " + x(95) + " |", edge(97)}, impl.OK},
		{"one byte more", []string{x(97)}, nil, impl.ErrFull},
		{"two bytes more", []string{x(98)}, nil, impl.ErrFull},
		{"a line of the greatest length of lines", []string{x(100)}, nil, impl.ErrFull},
		{"one byte more in the first line", []string{x(97), "a"}, nil, impl.ErrFull},
		{"one byte more in the last line", []string{"a", x(96), x(97)}, nil, impl.ErrFull},
		{"one blank more", []string{x(96) + " "}, nil, impl.ErrFull},
		{"blanks that are too many", []string{gap(97)}, nil, impl.ErrFull},
		{"the most lines", repeated("a", 30), append(append([]string{"+---+"}, repeated("| a |", 30)...), "+---+"), impl.OK},
		{"the most lines of the greatest length", repeated(x(96), 30), append(append([]string{edge(98)}, repeated("| "+x(96)+" |", 30)...), edge(98)), impl.OK},
		{"the most lines, the last one too long", append(repeated("a", 29), x(97)), nil, impl.ErrFull},
	} {
		box, code := impl.BoxLines(c.lines)
		is(t, c.name, all(quoted(box), code), quoted(c.want), c.code)
	}
	for _, lines := range noBlocks() {
		box, code := impl.BoxLines(lines)
		is(t, fmt.Sprintf("no lines for a box: %.40q", fmt.Sprint(lines)), all(quoted(box), code), quoted(nil), impl.ErrRange)
	}
}

func TestCentreBlock(t *testing.T) {
	for _, c := range []struct {
		name  string
		lines []string
		width int64
		want  []string
		code  int64
	}{
		{"an odd rest", []string{"ink", "ribbon"}, 11, []string{"  ink", "  ribbon"}, impl.OK},
		{"an even rest", []string{"ink", "ribbon"}, 10, []string{"  ink", "  ribbon"}, impl.OK},
		{"the next odd rest", []string{"ink", "ribbon"}, 9, []string{" ink", " ribbon"}, impl.OK},
		{"a rest of 1", []string{"ink", "ribbon"}, 7, []string{"ink", "ribbon"}, impl.OK},
		{"exactly the width", []string{"ink", "ribbon"}, 6, []string{"ink", "ribbon"}, impl.OK},
		{"one byte more", []string{"ink", "ribbon"}, 5, nil, impl.ErrFull},
		{"one byte more in the first line", []string{"ribbon", "ink"}, 5, nil, impl.ErrFull},
		{"one byte more in the middle", []string{"ink", "ribbon", "a"}, 5, nil, impl.ErrFull},
		{"the longest line is the first one", []string{"ribbon", "ink"}, 9, []string{" ribbon", " ink"}, impl.OK},
		{"the blanks at the beginning are kept", []string{" a", "bcd"}, 6, []string{"  a", " bcd"}, impl.OK},
		{"the blanks at the end are kept", []string{"a ", "bcd"}, 6, []string{" a ", " bcd"}, impl.OK},
		{"the blanks at both ends count", []string{" a ", "b"}, 5, []string{"  a ", " b"}, impl.OK},
		{"blanks at the end of the longest line count", []string{"a  ", "bc"}, 7, []string{"  a  ", "  bc"}, impl.OK},
		{"blanks are one byte more", []string{"a ", "b"}, 1, nil, impl.ErrFull},
		{"blanks only", []string{" ", "  "}, 4, []string{"  ", "   "}, impl.OK},
		{"no lines", nil, 10, nil, impl.OK},
		{"no lines in the width 1", []string{}, 1, nil, impl.OK},
		{"an empty line", []string{""}, 5, []string{"  "}, impl.OK},
		{"empty lines in the width 1", []string{"", ""}, 1, []string{"", ""}, impl.OK},
		{"an empty line among others", []string{"ab", "", "a"}, 6, []string{"  ab", "  ", "  a"}, impl.OK},
		{"one byte in the width 1", []string{"a"}, 1, []string{"a"}, impl.OK},
		{"one byte in the greatest width", []string{"a"}, 100, []string{gap(49) + "a"}, impl.OK},
		{"the longest line", []string{x(100), "a"}, 100, []string{x(100), "a"}, impl.OK},
		{"the longest line, one byte more than the width", []string{"a", x(100)}, 99, nil, impl.ErrFull},
		{"the longest blanks", []string{gap(100)}, 100, []string{gap(100)}, impl.OK},
		{"the most lines", repeated("a", 30), 3, repeated(" a", 30), impl.OK},
		{"the most lines, the last one too long", append(repeated("a", 29), "abcd"), 3, nil, impl.ErrFull},
	} {
		block, code := impl.CentreBlock(c.lines, c.width)
		is(t, c.name, all(quoted(block), code), quoted(c.want), c.code)
	}
	for _, lines := range noBlocks() {
		for _, width := range []int64{1, 50, 100} {
			block, code := impl.CentreBlock(lines, width)
			is(t, fmt.Sprintf("no lines for a block: %.40q", fmt.Sprint(lines)), all(quoted(block), code), quoted(nil), impl.ErrRange)
		}
	}
}

func TestLeaderLine(t *testing.T) {
	for _, c := range []struct {
		name        string
		left, right string
		width       int64
		want        string
		code        int64
	}{
		{"four points", "ink", "5", 10, "ink .... 5", impl.OK},
		{"three points", "ink", "5", 9, "ink ... 5", impl.OK},
		{"two points", "ink", "5", 8, "ink .. 5", impl.OK},
		{"one point", "ink", "5", 7, "", impl.ErrFull},
		{"no point", "ink", "5", 6, "", impl.ErrFull},
		{"no second blank", "ink", "5", 5, "", impl.ErrFull},
		{"no blank", "ink", "5", 4, "", impl.ErrFull},
		{"less than the texts", "ink", "5", 3, "", impl.ErrFull},
		{"no text at the left", "", "5", 5, " .. 5", impl.OK},
		{"no text at the left, many points", "", "5", 10, " ....... 5", impl.OK},
		{"no text at the left, one point", "", "5", 4, "", impl.ErrFull},
		{"no text at the right", "ink", "", 7, "ink .. ", impl.OK},
		{"no text at the right, many points", "ink", "", 10, "ink ..... ", impl.OK},
		{"no text at the right, one point", "ink", "", 6, "", impl.ErrFull},
		{"no text", "", "", 4, " .. ", impl.OK},
		{"no text, one point", "", "", 3, "", impl.ErrFull},
		{"no text in the width 1", "", "", 1, "", impl.ErrFull},
		{"no text in the greatest width", "", "", 100, " " + strings.Repeat(".", 98) + " ", impl.OK},
		{"blanks within", "a b", "c  d", 11, "a b .. c  d", impl.OK},
		{"points at the ends", "a.", ".b", 8, "a. .. .b", impl.OK},
		{"the longest texts with two points", x(90), x(6), 100, x(90) + " .. " + x(6), impl.OK},
		{"one byte more at the left", x(91), x(6), 100, "", impl.ErrFull},
		{"one byte more at the right", x(90), x(7), 100, "", impl.ErrFull},
		{"the longest text at the left only", x(96), "", 100, x(96) + " .. ", impl.OK},
		{"the longest text at the right only", "", x(96), 100, " .. " + x(96), impl.OK},
		{"two texts of the greatest length", x(100), x(100), 100, "", impl.ErrFull},
	} {
		line, code := impl.LeaderLine(c.left, c.right, c.width)
		is(t, c.name, all(one(line), code), one(c.want), c.code)
	}
}

func TestBackSpaces(t *testing.T) {
	for text, want := range map[string]int64{"": 0, "a": 1, "ab": 1, "ink": 2, "abcd": 2, "a b": 2, "a  b": 2, "a b c": 3, x(98): 49, x(99): 50, x(100): 50} {
		n, code := impl.BackSpaces(text)
		is(t, "back from the middle of "+one(text), all(n, code), want, impl.OK)
	}
}

func TestTitlePage(t *testing.T) {
	for _, c := range []struct {
		name          string
		lines         []string
		width, height int64
		want          []string
		code          int64
	}{
		{"an odd number of empty lines", []string{"ink", "5"}, 5, 5, []string{"", " ink", "  5", "", ""}, impl.OK},
		{"an even number of empty lines", []string{"ink", "5"}, 5, 6, []string{"", "", " ink", "  5", "", ""}, impl.OK},
		{"two empty lines", []string{"ink", "5"}, 5, 4, []string{"", " ink", "  5", ""}, impl.OK},
		{"one empty line", []string{"ink", "5"}, 5, 3, []string{" ink", "  5", ""}, impl.OK},
		{"as many lines as the height", []string{"ink", "5"}, 5, 2, []string{" ink", "  5"}, impl.OK},
		{"one line more", []string{"ink", "5"}, 5, 1, nil, impl.ErrFull},
		{"no lines", nil, 5, 3, []string{"", "", ""}, impl.OK},
		{"no lines on the least page", []string{}, 1, 1, []string{""}, impl.OK},
		{"no lines on the greatest page", nil, 100, 30, repeated("", 30), impl.OK},
		{"one line on the least page", []string{"a"}, 1, 1, []string{"a"}, impl.OK},
		{"two lines on the least page", []string{"a", "b"}, 1, 1, nil, impl.ErrFull},
		{"one line on the greatest page", []string{"a"}, 100, 30, append(append(repeated("", 14), gap(49)+"a"), repeated("", 15)...), impl.OK},
		{"an empty line is centred as well", []string{"a", "", "b"}, 5, 5, []string{"", "  a", "  ", "  b", ""}, impl.OK},
		{"each line has a rest of its own", []string{"a", "ab", "abc", "abcd"}, 4, 4, []string{" a", " ab", "abc", "abcd"}, impl.OK},
		{"a line of exactly the width", []string{"a", "ink"}, 3, 3, []string{" a", "ink", ""}, impl.OK},
		{"a first line of one byte more", []string{"ink", "a"}, 2, 5, nil, impl.ErrFull},
		{"a last line of one byte more", []string{"a", "ink"}, 2, 5, nil, impl.ErrFull},
		{"a line in the middle of one byte more", []string{"a", "ink", "b"}, 2, 5, nil, impl.ErrFull},
		{"the longest line", []string{x(100)}, 100, 2, []string{x(100), ""}, impl.OK},
		{"the longest line of one byte more", []string{x(100)}, 99, 2, nil, impl.ErrFull},
		{"the most lines", repeated("a", 30), 3, 30, repeated(" a", 30), impl.OK},
		{"the most lines, and a height of one less", repeated("a", 30), 3, 29, nil, impl.ErrFull},
		{"one line less", repeated("a", 29), 3, 30, append(repeated(" a", 29), ""), impl.OK},
		{"two lines less", repeated("a", 28), 3, 30, append(append([]string{""}, repeated(" a", 28)...), ""), impl.OK},
		{"blanks within", []string{"a b"}, 6, 1, []string{" a b"}, impl.OK},
		{"both too long and too many", []string{"ink", "a"}, 1, 1, nil, impl.ErrFull},
	} {
		page, code := impl.TitlePage(c.lines, c.width, c.height)
		is(t, c.name, all(quoted(page), code), quoted(c.want), c.code)
	}
}

// textsReturn checks what the functions on one text return for it, and for a width.
func textsReturn(t *testing.T, text string, width, want int64) {
	t.Helper()
	line, code := impl.CentreText(text, width)
	is(t, "CentreText "+one(text), all(one(line), code), one(""), want)
	line, code = impl.RightText(text, width)
	is(t, "RightText "+one(text), all(one(line), code), one(""), want)
	for _, other := range []string{"", "a", text} {
		line, code = impl.LeaderLine(text, other, width)
		is(t, "LeaderLine at the left "+one(text), all(one(line), code), one(""), want)
		line, code = impl.LeaderLine(other, text, width)
		is(t, "LeaderLine at the right "+one(text), all(one(line), code), one(""), want)
	}
}

func TestNoSettings(t *testing.T) {
	for _, text := range noSettings() {
		for _, width := range []int64{1, 2, 50, 100} {
			textsReturn(t, text, width, impl.ErrRange)
			for _, lines := range inLists(text) {
				page, code := impl.TitlePage(lines, width, 30)
				is(t, "TitlePage with "+one(text), all(quoted(page), code), quoted(nil), impl.ErrRange)
			}
		}
		line, code := impl.SpreadText(text)
		is(t, "SpreadText "+one(text), all(one(line), code), one(""), impl.ErrRange)
		line, code = impl.JoinSpread(text)
		is(t, "JoinSpread "+one(text), all(one(line), code), one(""), impl.ErrRange)
		line, code = impl.UnderlineText(text)
		is(t, "UnderlineText "+one(text), all(one(line), code), one(""), impl.ErrRange)
		n, code := impl.BackSpaces(text)
		is(t, "BackSpaces "+one(text), all(n, code), 0, impl.ErrRange)
	}
}

// Lines of a block and of a box may begin and end with blanks, those of a title page must not.
func TestLinesWithBlankEnds(t *testing.T) {
	for _, text := range blankEnds() {
		for _, lines := range inLists(text) {
			want := []string{}
			for _, line := range lines {
				want = append(want, gap((100-max(len(text), 1))/2)+line)
			}
			block, code := impl.CentreBlock(lines, 100)
			is(t, "CentreBlock with "+one(text), all(quoted(block), code), quoted(want), impl.OK)
			box, code := impl.BoxLines(lines)
			if len(text) > 96 {
				is(t, "BoxLines with "+one(text), all(quoted(box), code), quoted(nil), impl.ErrFull)
			} else {
				is(t, "BoxLines with "+one(text), all(len(box), code), len(lines)+2, impl.OK)
			}
			page, code := impl.TitlePage(lines, 100, 30)
			is(t, "TitlePage with "+one(text), all(quoted(page), code), quoted(nil), impl.ErrRange)
		}
	}
}

// Each byte is in a text or not, also as the only one, the first one and the last one.
func TestSettingsByEachByte(t *testing.T) {
	for c := range 256 {
		letter := string([]byte{byte(c)})
		for _, text := range []string{letter, "a" + letter, letter + "a", "a" + letter + "b"} {
			isLine := c >= 32 && c <= 126
			isSetting := isLine && (c != 32 || text == "a b")
			line, code := impl.RightText(text, 4)
			is(t, "RightText "+one(text), all(one(line), code), textOrRange(isSetting, gap(4-len(text))+text)...)
			line, code = impl.CentreText(text, 3)
			is(t, "CentreText "+one(text), all(one(line), code), textOrRange(isSetting, gap((3-len(text))/2)+text)...)
			line, code = impl.LeaderLine(text, text, 2*int64(len(text))+4)
			is(t, "LeaderLine "+one(text), all(one(line), code), textOrRange(isSetting, text+" .. "+text)...)
			block, code := impl.CentreBlock([]string{text}, 4)
			is(t, "CentreBlock "+one(text), all(one(strings.Join(block, "")), code), textOrRange(isLine, gap((4-len(text))/2)+text)...)
			box, code := impl.BoxLines([]string{text})
			rule := "+" + strings.Repeat("-", len(text)+2) + "+"
			is(t, "BoxLines "+one(text), all(one(strings.Join(box, "")), code), textOrRange(isLine, rule+"| "+text+" |"+rule)...)
			page, code := impl.TitlePage([]string{text}, 3, 1)
			is(t, "TitlePage "+one(text), all(one(strings.Join(page, "")), code), textOrRange(isSetting, gap((3-len(text))/2)+text)...)
		}
	}
}

// textOrRange returns the results of a call that returns a text if its arguments are right, and otherwise ErrRange.
func textOrRange(isRight bool, text string) []any {
	if isRight {
		return all(one(text), impl.OK)
	}
	return all(one(""), impl.ErrRange)
}

func TestWidthsAndHeights(t *testing.T) {
	for _, width := range noCentreWidths() {
		for _, text := range []string{"", "a", "ink", x(100), " ", x(101)} {
			textsReturn(t, text, width, impl.ErrRange)
			for _, lines := range [][]string{nil, {text}, {"a", text}} {
				block, code := impl.CentreBlock(lines, width)
				is(t, fmt.Sprint("CentreBlock in ", width), all(quoted(block), code), quoted(nil), impl.ErrRange)
				page, code := impl.TitlePage(lines, width, 5)
				is(t, fmt.Sprint("TitlePage in ", width), all(quoted(page), code), quoted(nil), impl.ErrRange)
			}
		}
	}
	for _, height := range noHeights() {
		for _, lines := range [][]string{nil, {""}, {"a"}, {"ink", "5"}, repeated("a", 30)} {
			page, code := impl.TitlePage(lines, 5, height)
			is(t, fmt.Sprint("TitlePage in the height ", height), all(quoted(page), code), quoted(nil), impl.ErrRange)
		}
	}
	// All widths and heights that may be are there.
	for width := range int64(100) {
		line, code := impl.RightText("a", width+1)
		is(t, fmt.Sprint("the width ", width+1), all(one(line), code), one(gap(int(width))+"a"), impl.OK)
		rule, code := impl.RuleLine("-", width+1)
		is(t, fmt.Sprint("a rule of ", width+1), all(one(rule), code), one(strings.Repeat("-", int(width+1))), impl.OK)
	}
	for height := range 30 {
		page, code := impl.TitlePage(nil, 5, int64(height)+1)
		is(t, fmt.Sprint("the height ", height+1), all(quoted(page), code), quoted(repeated("", height+1)), impl.OK)
	}
}

// ErrRange is checked over all arguments before another code is returned.
func TestRangeComesFirst(t *testing.T) {
	for _, text := range []string{x(101), x(101) + " ", " " + x(60), x(60) + " ", x(60) + "\x7f", "\x1f" + x(60)} {
		textsReturn(t, text, 50, impl.ErrRange)
		line, code := impl.SpreadText(text)
		is(t, "SpreadText "+one(text), all(one(line), code), one(""), impl.ErrRange)
		line, code = impl.JoinSpread(text)
		is(t, "JoinSpread "+one(text), all(one(line), code), one(""), impl.ErrRange)
	}
	for _, lines := range [][]string{{x(97), "\x7f"}, {"\x7f", x(97)}, {x(97), x(101)}, append([]string{x(97)}, repeated("a", 30)...), repeated(x(97), 31), append(repeated(x(97), 29), "a\x1f")} {
		box, code := impl.BoxLines(lines)
		is(t, "BoxLines", all(quoted(box), code), quoted(nil), impl.ErrRange)
		for _, width := range []int64{1, 5, 96} {
			block, code := impl.CentreBlock(lines, width)
			is(t, "CentreBlock", all(quoted(block), code), quoted(nil), impl.ErrRange)
			page, code := impl.TitlePage(lines, width, 1)
			is(t, "TitlePage", all(quoted(page), code), quoted(nil), impl.ErrRange)
		}
	}
	for _, c := range []struct {
		lines         []string
		width, height int64
	}{
		{[]string{"ink", " a"}, 2, 5}, {[]string{"ink", "a "}, 2, 5}, {[]string{"a", "b", " c"}, 5, 2}, {[]string{"a", "b "}, 5, 1}, {[]string{"ink", " "}, 2, 1},
		{[]string{"ink"}, 2, 0}, {[]string{"ink"}, 2, 31}, {[]string{"a", "b"}, 0, 1}, {[]string{"a", "b"}, 101, 1}, {repeated("a", 31), 5, 30}, {repeated("a", 31), 5, 1}, {repeated("ink", 31), 1, 31},
	} {
		page, code := impl.TitlePage(c.lines, c.width, c.height)
		is(t, fmt.Sprint("TitlePage ", c), all(quoted(page), code), quoted(nil), impl.ErrRange)
	}
	for _, c := range []struct {
		left, right string
		width       int64
	}{{"ink ", "5", 3}, {"ink", " 5", 3}, {"", " ", 1}, {" ", "", 1}, {"ink", "5", 0}, {"ink", "5", 101}, {x(100), x(101), 100}, {x(101), x(100), 100}} {
		line, code := impl.LeaderLine(c.left, c.right, c.width)
		is(t, fmt.Sprint("LeaderLine ", c), all(one(line), code), one(""), impl.ErrRange)
	}
}
