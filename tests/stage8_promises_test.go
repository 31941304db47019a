package tests

import (
	"fmt"
	"math/rand"
	"slices"
	"strings"
	"testing"

	"loop.example/g01045/impl"
)

// lengthSlowly types words with one blank between two of them, byte by byte.
func lengthSlowly(words []string) int64 {
	length := int64(0)
	for i, word := range words {
		if i > 0 {
			length++
		}
		for range word {
			length++
		}
	}
	return length
}

// cutSlowly returns the words of each line: a new line begins with the first word, and with each word that is one of the breaks.
func cutSlowly(words []string, breaks []int64) [][]string {
	var lines [][]string
	for i, word := range words {
		if i == 0 || slices.Contains(breaks, int64(i)) {
			lines = append(lines, nil)
		}
		lines[len(lines)-1] = append(lines[len(lines)-1], word)
	}
	return lines
}

// badnessSlowly returns the badness of breaks; false if a line does not fit.
func badnessSlowly(words []string, width int64, breaks []int64) (int64, bool) {
	badness, waste := int64(0), int64(0)
	for _, line := range cutSlowly(words, breaks) {
		badness += waste * waste // that of the line before, which was not the last one
		waste = width - lengthSlowly(line)
		if waste < 0 {
			return 0, false
		}
	}
	return badness, true
}

// allBreaks returns all breaks of n words, compared number by number, the beginnings of others first.
func allBreaks(n int64) [][]int64 {
	var list [][]int64
	for at := n - 1; at >= 1; at-- { // all breaks from at on, and then those behind it
		with := [][]int64{{at}}
		for _, rest := range list {
			with = append(with, slices.Concat([]int64{at}, rest))
		}
		list = append(with, list...)
	}
	return append([][]int64{{}}, list...)
}

// justifiedSlowly puts one blank after the other into the gaps of a line, from the left on again and again.
func justifiedSlowly(words []string, width int64) string {
	gaps := make([]string, len(words))
	if len(words) > 1 {
		for i := range gaps[1:] {
			gaps[i] = " "
		}
	}
	for at := 0; int64(len(strings.Join(words, "")+strings.Join(gaps, ""))) < width; at++ {
		gaps[at%max(1, len(words)-1)] += " "
	}
	line := ""
	for i, word := range words {
		line += word + gaps[i]
	}
	return line
}

// textIsThis checks the lines of a text by breaks that fit.
func textIsThis(t *testing.T, words []string, width int64, breaks []int64) {
	t.Helper()
	lines := cutSlowly(words, breaks)
	want := []string{}
	for i, line := range lines {
		if i == len(lines)-1 {
			want = append(want, strings.Join(line, " "))
			continue
		}
		justified, code := impl.SetLine(line, width)
		is(t, "a line", all(quoted([]string{justified}), len(justified), code), quoted([]string{justifiedSlowly(line, width)}), width, impl.OK)
		want = append(want, justified)
	}
	text, code := impl.SetText(words, width, breaks)
	is(t, "a text", all(quoted(text), code), quoted(want), impl.OK)
	back, code := impl.WordsOfLines(text)
	is(t, "the words of a text", all(back, code), words, impl.OK)
}

// breaksAreThese checks all functions on breaks against all breaks of the words.
func breaksAreThese(t *testing.T, words []string, width int64, list [][]int64) {
	t.Helper()
	var best, first []int64
	least, fewest := int64(-1), int64(0)
	for _, breaks := range list {
		want, fits := badnessSlowly(words, width, breaks)
		badness, code := impl.BadnessOf(words, width, breaks)
		if !fits {
			is(t, "a line that does not fit", all(badness, code), 0, impl.ErrFull)
			text, code := impl.SetText(words, width, breaks)
			is(t, "a text that does not fit", all(text, code), []string{}, impl.ErrFull)
			continue
		}
		is(t, "badness", all(badness, code), want, impl.OK)
		if least < 0 || badness < least {
			best, least = breaks, badness
		}
		if lines := int64(len(cutSlowly(words, breaks))); fewest == 0 || lines < fewest {
			fewest = lines
		}
		// Of all breaks where the lines fit, the fullest lines have the greatest ones, number by number, and end first.
		if first == nil || isFuller(breaks, first) {
			first = breaks
		}
	}
	name := fmt.Sprint(words, " in ", width)
	told, badness, code := impl.BestBreaks(words, width)
	is(t, "best breaks of "+name, all(told, badness, code), best, least, impl.OK)
	told, code = impl.FirstBreaks(words, width)
	is(t, "first breaks of "+name, all(told, code), first, impl.OK)
	few, code := impl.FewestLines(words, width)
	is(t, "fewest lines of "+name, all(few, code), fewest, impl.OK)
	textIsThis(t, words, width, best)
	textIsThis(t, words, width, first)
}

// isFuller reports whether the first line in which breaks differ has more words by a than by b.
func isFuller(a, b []int64) bool {
	for i := range min(len(a), len(b)) {
		if a[i] != b[i] {
			return a[i] > b[i]
		}
	}
	return len(a) < len(b)
}

// Promise 9: of all short texts, no breaks at all are better than the best ones, and none that are as good come before them.
func TestNoBreaksAreBetterThanTheBest(t *testing.T) {
	is(t, "all breaks", all(allBreaks(0), allBreaks(1), allBreaks(4)), [][]int64{{}}, [][]int64{{}}, [][]int64{{}, {1}, {1, 2}, {1, 2, 3}, {1, 3}, {2}, {2, 3}, {3}})
	for n := range 7 {
		list := allBreaks(int64(n))
		for _, width := range []int64{1, 3, 4, 7} {
			most := int(min(width, 4))
			texts := 1
			for range n {
				texts *= most
			}
			for text := range texts {
				var words []string
				for range n {
					words = append(words, strings.Repeat("abcdef"[len(words):][:1], 1+text%most))
					text /= most
				}
				breaksAreThese(t, words, width, list)
			}
		}
	}
}

// drawWords returns words and a width in which they can be set; often there are several of the same length.
func drawWords(r *rand.Rand, most int) ([]string, int64) {
	width := 1 + r.Int63n(80)/(1+r.Int63n(8))
	longest := 1 + r.Int63n(width)/(1+r.Int63n(5))
	var words []string
	for range r.Intn(most + 1) {
		word := ""
		for range 1 + r.Int63n(longest) {
			word += string(rune(33 + r.Intn(94)))
		}
		words = append(words, word)
	}
	return words, width
}

// Promise 9: of drawn texts, too, no breaks at all are better than the best ones.
func TestNoBreaksOfDrawnTextsAreBetter(t *testing.T) {
	r := rand.New(rand.NewSource(26))
	lists := map[int][][]int64{}
	for n := range 11 {
		lists[n] = allBreaks(int64(n))
	}
	for range 400 {
		words, width := drawWords(r, 10)
		breaksAreThese(t, words, width, lists[len(words)])
	}
}

// bestSlowly returns the first breaks with the least badness, for all words from the last one on.
func bestSlowly(words []string, width int64) ([]int64, int64) {
	type way struct {
		breaks  []int64
		badness int64
	}
	best := make([]way, len(words)+1)
	for begin := len(words) - 1; begin >= 0; begin-- {
		var ways []way
		for end := begin + 1; end <= len(words); end++ {
			waste := width - lengthSlowly(words[begin:end])
			if waste < 0 {
				continue
			}
			if end == len(words) {
				ways = append(ways, way{nil, 0})
				continue
			}
			ways = append(ways, way{slices.Concat([]int64{int64(end)}, best[end].breaks), waste*waste + best[end].badness})
		}
		best[begin] = slices.MinFunc(ways, func(a, b way) int {
			if a.badness != b.badness {
				return int(a.badness - b.badness)
			}
			return slices.Compare(a.breaks, b.breaks)
		})
	}
	return best[0].breaks, best[0].badness
}

// drawBreaks returns breaks where all lines fit, and of which each line has any number of words.
func drawBreaks(r *rand.Rand, words []string, width int64) []int64 {
	var breaks []int64
	for begin := 0; begin < len(words); {
		most := begin + 1
		for most < len(words) && lengthSlowly(words[begin:most+1]) <= width {
			most++
		}
		begin += 1 + r.Intn(most-begin)
		if begin < len(words) {
			breaks = append(breaks, int64(begin))
		}
	}
	return breaks
}

// Promise 9: no drawn breaks are better than the best ones, and justified lines have just the width and their words.
func TestNoDrawnBreaksAreBetter(t *testing.T) {
	r := rand.New(rand.NewSource(27))
	lines := 0
	for i := range 2000 {
		words, width := drawWords(r, []int{8, 40}[i%2])
		want, least := bestSlowly(words, width)
		best, badness, code := impl.BestBreaks(words, width)
		is(t, fmt.Sprint("the best breaks of ", words, " in ", width), all(best, badness, code), want, least, impl.OK)
		textIsThis(t, words, width, best)
		for range 10 {
			breaks := drawBreaks(r, words, width)
			drawn, code := impl.BadnessOf(words, width, breaks)
			told, fits := badnessSlowly(words, width, breaks)
			is(t, "the badness of drawn breaks", all(drawn, fits, code), told, true, impl.OK)
			if drawn < badness || drawn == badness && slices.Compare(breaks, best) < 0 {
				t.Fatal("better breaks", words, width, breaks, drawn, best, badness)
			}
			textIsThis(t, words, width, breaks)
			lines += len(breaks)
		}
	}
	if lines < 100000 {
		t.Fatal("too few lines", lines)
	}
}

// Chapter 9: the first breaks fill each line, and no drawn breaks have fewer lines.
func TestFirstBreaksFillLines(t *testing.T) {
	r := rand.New(rand.NewSource(28))
	for range 3000 {
		words, width := drawWords(r, 40)
		breaks, code := impl.FirstBreaks(words, width)
		lines := cutSlowly(words, breaks)
		is(t, "first breaks", all(code), impl.OK)
		for i, line := range lines {
			if lengthSlowly(line) > width || i+1 < len(lines) && lengthSlowly(append(slices.Clone(line), lines[i+1][0])) <= width {
				t.Fatal("a line that is too long or too short", words, width, breaks)
			}
		}
		few, code := impl.FewestLines(words, width)
		is(t, "fewest lines", all(few, code), len(lines), impl.OK)
		for range 10 {
			if drawn := cutSlowly(words, drawBreaks(r, words, width)); int64(len(drawn)) < few {
				t.Fatal("fewer lines", words, width, drawn)
			}
		}
	}
}

// Chapter 9: with the least width, the lines are at most as many as told, and with one less they are not.
func TestDrawnLeastWidths(t *testing.T) {
	r := rand.New(rand.NewSource(29))
	found, full := 0, 0
	for range 3000 {
		words, _ := drawWords(r, 40)
		lines := 1 + r.Int63n(40)/(1+r.Int63n(40))
		want := all(0, impl.ErrFull)
		for width := int64(80); width >= 1; width-- {
			if few, code := impl.FewestLines(words, width); code == impl.OK && few <= lines {
				want = all(width, impl.OK)
			}
		}
		if want[1] == impl.OK {
			found++
		} else {
			full++
		}
		width, code := impl.LeastWidth(words, lines)
		is(t, fmt.Sprint("the least width of ", words, " for ", lines), all(width, code), want...)
	}
	if found < 400 || full < 400 {
		t.Fatal("too few texts with a least width, or without one", found, full)
	}
}

// Chapter 9: lines are justified if they fit, for all widths.
func TestDrawnLines(t *testing.T) {
	r := rand.New(rand.NewSource(30))
	for range 2000 {
		words, width := drawWords(r, 12)
		for ; width <= 80; width++ {
			want := all(quoted([]string{""}), impl.ErrFull)
			if len(words) == 0 {
				want[1] = impl.ErrNotFound
			} else if lengthSlowly(words) <= width {
				want = all(quoted([]string{justifiedSlowly(words, width)}), impl.OK)
			}
			line, code := impl.SetLine(words, width)
			is(t, "a line", all(quoted([]string{line}), code), want...)
		}
	}
}

// Chapter 9: the words of lines with any blanks between them.
func TestDrawnWordsOfLines(t *testing.T) {
	r := rand.New(rand.NewSource(31))
	for range 3000 {
		var lines []string
		want := []string{}
		for range r.Intn(41) {
			line := drawText(r, "  !~a", r.Intn(81))
			lines = append(lines, line)
			word := ""
			for i := range len(line) {
				if line[i] != ' ' {
					word += line[i : i+1]
				}
				if word != "" && (line[i] == ' ' || i == len(line)-1) {
					want = append(want, word)
					word = ""
				}
			}
		}
		words, code := impl.WordsOfLines(lines)
		is(t, "the words of lines", all(quoted(words), code), quoted(want), impl.OK)
	}
}

// wordCallsArePure checks all functions that take words, and perhaps a number.
func wordCallsArePure(t *testing.T, list []string, width int64) {
	t.Helper()
	words, same := watched(list)
	isPure(t, "ValidText", func() []any { return all(impl.ValidText(words, width)) }, same)
	isCoded(t, "FirstBreaks", func() []any { breaks, code := impl.FirstBreaks(words, width); return all(breaks, code) }, same)
	isCoded(t, "BestBreaks", func() []any {
		breaks, badness, code := impl.BestBreaks(words, width)
		return all(breaks, badness, code)
	}, same)
	isCoded(t, "FewestLines", func() []any { few, code := impl.FewestLines(words, width); return all(few, code) }, same)
	isCoded(t, "SetLine", func() []any { line, code := impl.SetLine(words, width); return all(line, code) }, same)
	isCoded(t, "LeastWidth", func() []any { least, code := impl.LeastWidth(words, width); return all(least, code) }, same)
	isCoded(t, "WordsOfLines", func() []any { back, code := impl.WordsOfLines(words); return all(back, code) }, same)
	for _, numbers := range append(wrongBreaks(int64(len(list))), nil, []int64{1}, []int64{1, 2}, []int64{1, 3}, upTo(int64(len(list))-1)) {
		breaks, unchanged := watched(numbers)
		isCoded(t, "BadnessOf", func() []any { badness, code := impl.BadnessOf(words, width, breaks); return all(badness, code) }, same, unchanged)
		isCoded(t, "SetText", func() []any { lines, code := impl.SetText(words, width, breaks); return all(lines, code) }, same, unchanged)
	}
}

// Promise 1 for chapter 9.
func TestLinesArePure(t *testing.T) {
	for _, c := range slices.Concat(rightWords(), wrongWords()) {
		wordCallsArePure(t, c.words, c.width)
	}
	for _, width := range append(oddNumbers(), 5, 6, 8, 79, 80, 81) {
		for _, words := range [][]string{nil, {"a"}, wordsOf("a bb c"), wordsOf("aaa bb cc ddddd"), repeated("a", 40), repeated("a", 41)} {
			wordCallsArePure(t, words, width)
		}
	}
	for _, s := range oddTexts() {
		for _, words := range [][]string{{s}, {"a", s}, {s, "a"}, repeated(s, 40), repeated(s, 41)} {
			wordCallsArePure(t, words, 6)
			wordCallsArePure(t, words, 80)
		}
	}
	r := rand.New(rand.NewSource(32))
	for range 100 {
		words, width := drawWords(r, 40)
		wordCallsArePure(t, words, width)
	}
}
