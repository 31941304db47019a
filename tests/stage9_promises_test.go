package tests

import (
	"fmt"
	"math/rand"
	"slices"
	"strings"
	"testing"

	"loop.example/g01045/impl"
)

// centredSlowly puts a blank on each side of a text as long as there is room for both, and leaves those behind it away.
func centredSlowly(text string, width int) string {
	margin := ""
	for len(margin+" "+text+" "+margin) <= width {
		margin += " "
	}
	return margin + text
}

// rightSlowly pushes a text on until it reaches the end of the width.
func rightSlowly(text string, width int) string {
	for len(text) < width {
		text = " " + text
	}
	return text
}

// longestOf returns the longest line, the last one of several, and no byte if there is none.
func longestOf(lines []string) string {
	longest := ""
	for _, line := range lines {
		if len(line) >= len(longest) {
			longest = line
		}
	}
	return longest
}

// boxSlowly draws a box place by place.
func boxSlowly(lines []string) []string {
	length := len("| " + longestOf(lines) + " |")
	var box []string
	for row := range len(lines) + 2 {
		line := ""
		for column := range length {
			isRule, isEnd := row == 0 || row == len(lines)+1, column == 0 || column == length-1
			switch {
			case isRule && isEnd:
				line += "+"
			case isRule:
				line += "-"
			case isEnd:
				line += "|"
			case column >= 2 && column-2 < len(lines[row-1]):
				line += lines[row-1][column-2 : column-1]
			default:
				line += " "
			}
		}
		box = append(box, line)
	}
	return box
}

// blockSlowly centres the longest line and begins all others where it begins.
func blockSlowly(lines []string, width int) []string {
	longest := longestOf(lines)
	margin := strings.TrimSuffix(centredSlowly(longest, width), longest)
	var block []string
	for _, line := range lines {
		block = append(block, margin+line)
	}
	return block
}

// titleSlowly adds empty lines below and above by turns, below first, until the page is full.
func titleSlowly(lines []string, width, height int) []string {
	page := []string{}
	for _, line := range lines {
		page = append(page, centredSlowly(line, width))
	}
	for below := true; len(page) < height; below = !below {
		if below {
			page = append(page, "")
		} else {
			page = append([]string{""}, page...)
		}
	}
	return page
}

// leaderSlowly adds points until the line has the width; false if there are too few.
func leaderSlowly(left, right string, width int) (string, bool) {
	line, points := left+" ", 0
	for len(line+" "+right) < width {
		line += "."
		points++
	}
	return line + " " + right, points >= 2
}

// drawSetting returns a setting of at most most bytes, often with several blanks within.
func drawSetting(r *rand.Rand, most int) string {
	return strings.Trim(drawText(r, "  !~abc'-._", most), " ")
}

// drawLines returns lines of at most most bytes; if they are no settings, they often begin or end with blanks.
func drawLines(r *rand.Rand, most int, settings bool) []string {
	var lines []string
	for range r.Intn(31) {
		if settings {
			lines = append(lines, drawSetting(r, most))
		} else {
			lines = append(lines, drawText(r, "  !~abc'-._", most))
		}
	}
	return lines
}

// centredIsThis checks a text in a width against the slow ways.
func centredIsThis(t *testing.T, text string, width int) {
	t.Helper()
	centre, right := all(one(centredSlowly(text, width)), impl.OK), all(one(rightSlowly(text, width)), impl.OK)
	if len(text) > width {
		centre, right = all(one(""), impl.ErrFull), all(one(""), impl.ErrFull)
	}
	name := fmt.Sprint(one(text), " in ", width)
	line, code := impl.CentreText(text, int64(width))
	is(t, "CentreText of "+name, all(one(line), code), centre...)
	line, code = impl.RightText(text, int64(width))
	is(t, "RightText of "+name, all(one(line), code), right...)
}

// Promise 10: what is centred or moved to the right ends within the width, for texts of all lengths in all widths.
func TestCentredTextsEndWithinTheWidth(t *testing.T) {
	for length := range 101 {
		text := x(length)
		for width := 1; width <= 100; width++ {
			centredIsThis(t, text, width)
			if length > width {
				continue
			}
			line, _ := impl.CentreText(text, int64(width))
			before, behind := len(line)-length, width-len(line)
			if before < 0 || behind < before || behind > before+1 || line[before:] != text {
				t.Fatal("not in the middle", length, width, one(line))
			}
			line, _ = impl.RightText(text, int64(width))
			if len(line) != width || line[width-length:] != text {
				t.Fatal("not at the right", length, width, one(line))
			}
		}
	}
}

// Promise 10: drawn texts, too, end within the width, and the longest line of a block and all lines of a page do.
func TestDrawnTextsEndWithinTheWidth(t *testing.T) {
	r := rand.New(rand.NewSource(33))
	full := 0
	for range 3000 {
		width := 1 + r.Intn(100)
		centredIsThis(t, drawSetting(r, min(100, width+2)), width)
		lines := drawLines(r, 1+r.Intn(min(100, width+2)), false)
		want := all(quoted(blockSlowly(lines, width)), impl.OK)
		if len(longestOf(lines)) > width {
			want = all(quoted(nil), impl.ErrFull)
			full++
		}
		block, code := impl.CentreBlock(lines, int64(width))
		is(t, fmt.Sprint("a block in ", width), all(quoted(block), code), want...)
		for _, line := range block {
			if len(line) > width {
				t.Fatal("beyond the width", width, one(line))
			}
		}
	}
	if full < 100 || full > 2900 {
		t.Fatal("too few blocks of a sort", full)
	}
}

// Promise 10: the lines of drawn title pages stand in the middle of the width and of the height.
func TestDrawnTitlePages(t *testing.T) {
	r := rand.New(rand.NewSource(34))
	full := 0
	for range 5000 {
		width, height := 1+r.Intn(100), 1+r.Intn(30)
		lines := drawLines(r, 1+r.Intn(min(100, width+1)), true)
		lines = lines[:min(len(lines), height+r.Intn(2))]
		want := all(quoted(titleSlowly(lines, width, height)), impl.OK)
		if len(lines) > height || len(longestOf(lines)) > width {
			want = all(quoted(nil), impl.ErrFull)
			full++
		}
		page, code := impl.TitlePage(lines, int64(width), int64(height))
		is(t, fmt.Sprint("a title page of ", width, " and ", height), all(quoted(page), code), want...)
		for _, line := range page {
			if len(line) > width {
				t.Fatal("beyond the width", width, one(line))
			}
		}
	}
	if full < 200 || full > 4000 {
		t.Fatal("too few pages of a sort", full)
	}
	// All numbers of lines on pages of all heights.
	for height := 1; height <= 30; height++ {
		for n := range height + 1 {
			page, code := impl.TitlePage(repeated("ink", n), 6, int64(height))
			is(t, fmt.Sprint(n, " lines on a page of ", height), all(quoted(page), code), quoted(titleSlowly(repeated("ink", n), 6, height)), impl.OK)
		}
	}
}

// Chapter 10: a spread text joined is the text, and one that can be joined is the joined text spread.
func TestSpreadTextsAreJoined(t *testing.T) {
	r := rand.New(rand.NewSource(35))
	for range 5000 {
		text := drawSetting(r, 60)
		spread, code := impl.SpreadText(text)
		if len(text) > 50 {
			is(t, "a text that is too long", all(one(spread), code), one(""), impl.ErrFull)
			continue
		}
		is(t, "a spread text", all(code), impl.OK)
		for i := range spread {
			if i%2 == 0 && spread[i] != text[i/2] || i%2 == 1 && spread[i] != ' ' {
				t.Fatal("not spread", one(text), one(spread))
			}
		}
		joined, code := impl.JoinSpread(spread)
		is(t, "a joined text", all(len(spread), one(joined), code), max(0, 2*len(text)-1), one(text), impl.OK)
	}
	// All short texts of blanks and letters.
	joinable := 0
	for n := range 10 {
		for bits := range 1 << n {
			text := ""
			for i := range n {
				text += string(" a"[bits>>i&1])
			}
			joined, code := impl.JoinSpread(text)
			if code != impl.OK {
				continue
			}
			joinable++
			spread, code := impl.SpreadText(joined)
			is(t, "spread again", all(one(spread), code), one(text), impl.OK)
		}
	}
	// Those of 0, 1, 3, 5, 7 and 9 bytes with any blanks at the even indices between the first and the last one.
	is(t, "texts that can be joined", all(joinable), 1+1+1+2+4+8)
}

// Chapter 10: a text is underlined where it is not blank.
func TestDrawnTextsAreUnderlined(t *testing.T) {
	r := rand.New(rand.NewSource(36))
	for range 3000 {
		text := drawSetting(r, 100)
		line, code := impl.UnderlineText(text)
		is(t, "underlined", all(len(line), strings.Trim(line, "_ "), code), len(text), "", impl.OK)
		for i := range min(len(line), len(text)) {
			if (line[i] == ' ') != (text[i] == ' ') {
				t.Fatal("blanks", one(text), one(line))
			}
		}
		n, code := impl.BackSpaces(text)
		is(t, "back from the middle", all(code, 2*n == int64(len(text)) || 2*n == int64(len(text))+1), impl.OK, true)
	}
}

// Chapter 10: boxes and leaders that are drawn place by place.
func TestDrawnBoxesAndLeaders(t *testing.T) {
	r := rand.New(rand.NewSource(37))
	fullBoxes, fullLines := 0, 0
	for range 3000 {
		lines := drawLines(r, []int{5, 50, 100}[r.Intn(3)], r.Intn(2) == 0)
		want := all(quoted(boxSlowly(lines)), impl.OK)
		if len(longestOf(lines)) > 96 {
			want = all(quoted(nil), impl.ErrFull)
			fullBoxes++
		}
		box, code := impl.BoxLines(lines)
		is(t, "a box", all(quoted(box), code), want...)

		left, right, width := drawSetting(r, 1+r.Intn(60)), drawSetting(r, 1+r.Intn(60)), 1+r.Intn(100)
		line, fits := leaderSlowly(left, right, width)
		want = all(one(line), impl.OK)
		if !fits {
			want = all(one(""), impl.ErrFull)
			fullLines++
		}
		line, code = impl.LeaderLine(left, right, int64(width))
		is(t, fmt.Sprint(one(left), " and ", one(right), " in ", width), all(one(line), code), want...)
	}
	if fullBoxes < 100 || fullBoxes > 2900 || fullLines < 500 || fullLines > 2500 {
		t.Fatal("too few of a sort", fullBoxes, fullLines)
	}
}

// centreCallsArePure checks all functions that take texts and perhaps a width.
func centreCallsArePure(t *testing.T, text, other string, width int64) {
	t.Helper()
	isCoded(t, "CentreText", func() []any { line, code := impl.CentreText(text, width); return all(line, code) })
	isCoded(t, "RightText", func() []any { line, code := impl.RightText(text, width); return all(line, code) })
	isCoded(t, "SpreadText", func() []any { line, code := impl.SpreadText(text); return all(line, code) })
	isCoded(t, "JoinSpread", func() []any { line, code := impl.JoinSpread(text); return all(line, code) })
	isCoded(t, "UnderlineText", func() []any { line, code := impl.UnderlineText(text); return all(line, code) })
	isCoded(t, "RuleLine", func() []any { line, code := impl.RuleLine(text, width); return all(line, code) })
	isCoded(t, "BackSpaces", func() []any { n, code := impl.BackSpaces(text); return all(n, code) })
	isCoded(t, "LeaderLine", func() []any { line, code := impl.LeaderLine(text, other, width); return all(line, code) })
}

// blockCallsArePure checks all functions that take lines.
func blockCallsArePure(t *testing.T, list []string, width, height int64) {
	t.Helper()
	lines, same := watched(list)
	isCoded(t, "BoxLines", func() []any { box, code := impl.BoxLines(lines); return all(box, code) }, same)
	isCoded(t, "CentreBlock", func() []any { block, code := impl.CentreBlock(lines, width); return all(block, code) }, same)
	isCoded(t, "TitlePage", func() []any { page, code := impl.TitlePage(lines, width, height); return all(page, code) }, same)
}

// Promise 1 for chapter 10.
func TestCentringIsPure(t *testing.T) {
	texts := slices.Concat(rightSettings(), noSettings(), oddTexts())
	for i, text := range texts {
		for _, width := range append(noCentreWidths(), 1, 2, 3, 10, 99, 100) {
			centreCallsArePure(t, text, "ink", width)
			centreCallsArePure(t, "ink", text, width)
			centreCallsArePure(t, text, texts[len(texts)-1-i], width)
		}
		for _, lines := range append(inLists(text), repeated(text, 30), repeated(text, 31)) {
			blockCallsArePure(t, lines, 100, 30)
			blockCallsArePure(t, lines, 10, 6)
		}
	}
	for _, width := range slices.Concat(oddNumbers(), noCentreWidths(), []int64{3, 6, 99, 100}) {
		for _, height := range slices.Concat(oddNumbers(), noHeights(), []int64{5, 29, 30}) {
			for _, lines := range [][]string{nil, {""}, {"a"}, {"ink", "ribbon"}, repeated("ink", 30)} {
				blockCallsArePure(t, lines, width, height)
			}
		}
	}
	r := rand.New(rand.NewSource(38))
	for i := range 500 {
		width, height := 1+r.Int63n(100), 1+r.Int63n(30)
		centreCallsArePure(t, drawSetting(r, int(width)), drawSetting(r, 20), width)
		blockCallsArePure(t, drawLines(r, int(width), i%2 == 0), width, height)
	}
}
