package tests

import (
	"fmt"
	"math/rand"
	"slices"
	"strings"
	"testing"

	"loop.example/g01045/impl"
)

// drawRack returns a rack of any size, often with stops side by side.
func drawRack(r *rand.Rand) []int64 {
	columns := 12 + r.Intn(109)
	var stops []int64
	for _, column := range r.Perm(columns)[:r.Intn(13)] {
		stops = append(stops, int64(119-column))
	}
	slices.Sort(stops)
	return stops
}

// pageOf returns a page that has T at each stop and points elsewhere.
func pageOf(stops []int64) []byte {
	page := []byte(strings.Repeat(".", 120))
	for _, stop := range stops {
		page[stop] = 'T'
	}
	return page
}

// stopsOn returns the columns of a page that have T.
func stopsOn(page []byte) []int64 {
	stops := []int64{}
	for column, c := range page {
		if c == 'T' {
			stops = append(stops, int64(column))
		}
	}
	return stops
}

// Chapter 8: stops are set, cleared and looked for column by column.
func TestDrawnRacks(t *testing.T) {
	r := rand.New(rand.NewSource(19))
	for range 400 {
		stops := drawRack(r)
		is(t, "the text of a rack", all(impl.RackText(stops)), strings.TrimRight(string(pageOf(stops)), "."))
		for column := range int64(120) {
			page := pageOf(stops)
			there := page[column] == 'T'
			page[column] = 'T'
			want := all(stopsOn(page), impl.OK)
			if there {
				want = all([]int64{}, impl.ErrExists)
			} else if len(stops) == 12 {
				want = all([]int64{}, impl.ErrFull)
			}
			set, code := impl.SetStop(stops, column)
			is(t, "a stop that is set", all(set, code), want...)
			page[column] = '.'
			want = all(stopsOn(page), impl.OK)
			if !there {
				want = all([]int64{}, impl.ErrNotFound)
			}
			cleared, code := impl.ClearStop(stops, column)
			is(t, "a stop that is cleared", all(cleared, code), want...)
			want = all(0, impl.ErrNotFound)
			for at := int64(119); at > column; at-- {
				if page[at] == 'T' {
					want = all(at, impl.OK)
				}
			}
			next, code := impl.NextStop(stops, column)
			is(t, "the next stop", all(next, code), want...)
		}
	}
}

// Chapter 8: a stop that is set can be cleared, and the other way round.
func TestStopsAreSetAndCleared(t *testing.T) {
	r := rand.New(rand.NewSource(20))
	for range 3000 {
		stops, column := drawRack(r), r.Int63n(120)
		if set, code := impl.SetStop(stops, column); code == impl.OK {
			cleared, code := impl.ClearStop(set, column)
			is(t, "set and cleared", all(impl.ValidRack(set), cleared, code), true, stops, impl.OK)
		}
		if cleared, code := impl.ClearStop(stops, column); code == impl.OK {
			set, code := impl.SetStop(cleared, column)
			is(t, "cleared and set", all(impl.ValidRack(cleared), set, code), true, stops, impl.OK)
		}
	}
}

// drawWidths returns 1 to 12 widths, which often fit on a page, and of which some are 0.
func drawWidths(r *rand.Rand) []int64 {
	n, most := 1+r.Intn(12), 1+r.Int63n(121)
	if r.Intn(4) > 0 {
		most = 1 + r.Int63n(1+120/int64(n))
	}
	var widths []int64
	for range n {
		widths = append(widths, r.Int63n(most))
	}
	if r.Intn(4) == 0 {
		widths[r.Intn(n)] = 0
	}
	return widths
}

// typedOn types columns with gaps between them from left on, and returns where each one begins, and where the last one ends.
func typedOn(widths []int64, left, gap int64) ([]int64, int64) {
	var begins []int64
	at := left
	for i, width := range widths {
		if i > 0 {
			at += gap
		}
		begins = append(begins, at)
		for range width {
			at++
		}
	}
	return begins, at
}

// Chapter 8: columns begin at their stops if they are on the page.
func TestDrawnColumns(t *testing.T) {
	r := rand.New(rand.NewSource(21))
	fit, full := 0, 0
	for range 20000 {
		widths, left, gap := drawWidths(r), r.Int63n(120)/(1+r.Int63n(120)), 1+r.Int63n(120)/(1+r.Int63n(120))
		begins, end := typedOn(widths, left, gap)
		stops, code := impl.StopsFor(widths, left, gap)
		if last := begins[len(begins)-1]; last >= 120 || end > 120 {
			full++
			is(t, "columns that are not on the page", all(stops, code), []int64{}, impl.ErrFull)
			continue
		}
		fit++
		is(t, "columns on the page", all(stops, code), begins, impl.OK)
		is(t, "their stops", all(impl.ValidRack(stops)), true)
	}
	if fit < 2000 || full < 2000 {
		t.Fatal("too few columns that fit, or that do not", fit, full)
	}
}

// Chapter 8: with the widest gap all columns fit, and with one more they do not.
func TestDrawnGaps(t *testing.T) {
	r := rand.New(rand.NewSource(22))
	fit, full := 0, 0
	for range 20000 {
		widths, right := drawWidths(r), 120-r.Int63n(121)/(1+r.Int63n(120))
		left := r.Int63n(right+1) / (1 + r.Int63n(121))
		widest := int64(0)
		for gap := int64(1); gap <= 120; gap++ {
			if _, end := typedOn(widths, left, gap); end <= right {
				widest = gap
			}
		}
		want := all(widest, impl.OK)
		switch {
		case len(widths) == 1:
			want = all(0, impl.ErrState)
		case widest == 0:
			full++
			want = all(0, impl.ErrFull)
		default:
			fit++
		}
		gap, code := impl.WidestGap(widths, left, right)
		is(t, fmt.Sprint("the widest gap of ", widths, " from ", left, " to ", right), all(gap, code), want...)
	}
	if fit < 2000 || full < 2000 {
		t.Fatal("too few columns that fit, or that do not", fit, full)
	}
}

// drawTable returns a table of which some columns may have no width.
func drawTable(r *rand.Rand) [][]string {
	letters := " ~lr.ab"
	rows, cells := 1+r.Intn(40)/(1+r.Intn(10)), 1+r.Intn(12)/(1+r.Intn(6))
	longest := make([]int, cells)
	for i := range longest {
		longest[i] = r.Intn(31) / (1 + r.Intn(31))
	}
	var table [][]string
	for range rows {
		var row []string
		for _, most := range longest {
			row = append(row, drawText(r, letters, r.Intn(most+1)))
		}
		table = append(table, row)
	}
	return table
}

// Promise 8: all lines of a table are equally long, and each cell is at its side of its column.
func TestLinesOfTablesAreEquallyLong(t *testing.T) {
	r := rand.New(rand.NewSource(23))
	for range 4000 {
		rows, gap := drawTable(r), r.Int63n(21)
		var sides string
		for range rows[0] {
			sides += "lr"[r.Intn(2):][:1]
		}
		want := make([]int64, len(rows[0]))
		for _, row := range rows {
			for i, cell := range row {
				if int64(len(cell)) > want[i] {
					want[i] = int64(len(cell))
				}
			}
		}
		widths, code := impl.ColumnWidths(rows)
		is(t, "widths", all(widths, code), want, impl.OK)
		begins, end := typedOn(want, 0, gap)
		lines, code := impl.TableLines(rows, sides, gap)
		is(t, "lines", all(len(lines), code), len(rows), impl.OK)
		for at, row := range rows {
			line := []byte(strings.Repeat(" ", int(end)))
			for i, cell := range row {
				first := begins[i]
				if sides[i] == 'r' {
					first += want[i] - int64(len(cell))
				}
				copy(line[first:], cell)
			}
			is(t, "a line", all(len(lines[at]), "|"+lines[at]+"|"), end, "|"+string(line)+"|")
		}
	}
}

// isNumberSlowly goes through a text byte by byte.
func isNumberSlowly(s string) bool {
	state := "begin"
	for i := range len(s) {
		kind := "other"
		switch c := s[i]; {
		case c == '-':
			kind = "sign"
		case c == '.':
			kind = "point"
		case c >= '0' && c <= '9':
			kind = "digit"
		}
		next := map[string]string{
			"begin sign": "sign", "begin digit": "whole", "sign digit": "whole", "whole digit": "whole",
			"whole point": "point", "point digit": "fraction", "fraction digit": "fraction",
		}
		state = next[state+" "+kind]
	}
	return state == "whole" || state == "fraction"
}

// alignedAt returns where a line with a number is aligned.
func alignedAt(line string) int {
	if at := strings.IndexByte(line, '.'); at >= 0 {
		return at
	}
	return len(line)
}

// Chapter 8: of all short texts, the numbers are those of a machine with states.
func TestAllShortNumbers(t *testing.T) {
	letters := "05-. x"
	texts := []string{""}
	for i := 0; i < len(texts); i++ {
		s := texts[i]
		if len(s) < 5 {
			for k := range letters {
				texts = append(texts, s+letters[k:k+1])
			}
		}
		want := all(0, impl.ErrSyntax)
		if isNumberSlowly(s) {
			want = all(20-alignedAt(s), impl.OK)
		}
		start, code := impl.DecimalStart(s, 20)
		is(t, fmt.Sprintf("%q", s), all(start, code), want...)
	}
}

// drawNumber returns a number of at most 30 bytes.
func drawNumber(r *rand.Rand) string {
	number := drawText(r, "0159", 1+r.Intn(15)/(1+r.Intn(5))) + "7"
	if r.Intn(2) == 0 {
		number += "." + drawText(r, "0159", r.Intn(12)) + "3"
	}
	if r.Intn(3) == 0 {
		number = "-" + number
	}
	return number
}

// Promise 8: numbers are aligned at one column, and no blank is in front of all of them.
func TestNumbersAreAlignedAtOneColumn(t *testing.T) {
	r := rand.New(rand.NewSource(24))
	for range 4000 {
		var numbers []string
		for range 1 + r.Intn(40)/(1+r.Intn(20)) {
			numbers = append(numbers, drawNumber(r))
		}
		list, code := impl.AlignNumbers(numbers)
		is(t, "numbers", all(len(list), code), len(numbers), impl.OK)
		column, fewest := alignedAt(list[0]), 100
		for i, line := range list {
			blanks := len(line) - len(numbers[i])
			is(t, "a number", all(line, alignedAt(line)), strings.Repeat(" ", max(0, blanks))+numbers[i], column)
			fewest = min(fewest, blanks)
			start, code := impl.DecimalStart(numbers[i], int64(column))
			is(t, "where it begins", all(start, code), blanks, impl.OK)
		}
		is(t, "the fewest blanks", all(fewest), 0)
	}
}

// Chapter 8: a number begins where its point, or its end, comes to the column.
func TestNumbersBeginWhereTheyAreAligned(t *testing.T) {
	r := rand.New(rand.NewSource(25))
	for range 4000 {
		number, column := drawNumber(r), r.Int63n(120)/(1+r.Int63n(20))
		want := all(0, impl.ErrFull)
		for start := int64(0); start <= column; start++ {
			if alignedAt(strings.Repeat(" ", int(start))+number) == int(column) {
				want = all(start, impl.OK)
			}
		}
		start, code := impl.DecimalStart(number, column)
		is(t, fmt.Sprint(number, " at ", column), all(start, code), want...)
	}
}

// Promise 1 for racks and widths.
func TestRacksArePure(t *testing.T) {
	numbers := append(oddNumbers(), 5, 60, 118, 119, 120, 121)
	for _, n := range slices.Concat(racks(), wrongRacks(), wrongWidths(), [][]int64{{6, 4, 5}, {60, 60}, {120}, {0, 0}, {1, 120}}) {
		list, same := watched(n)
		isPure(t, "ValidRack", func() []any { return all(impl.ValidRack(list)) }, same)
		isPure(t, "RackText", func() []any { return all(impl.RackText(list)) }, same)
		for _, column := range numbers {
			isCoded(t, "SetStop", func() []any { stops, code := impl.SetStop(list, column); return all(stops, code) }, same)
			isCoded(t, "ClearStop", func() []any { stops, code := impl.ClearStop(list, column); return all(stops, code) }, same)
			isCoded(t, "NextStop", func() []any { stop, code := impl.NextStop(list, column); return all(stop, code) }, same)
			for _, other := range []int64{column, 0, 1, 10, 120, -column} {
				isCoded(t, "StopsFor", func() []any { stops, code := impl.StopsFor(list, column, other); return all(stops, code) }, same)
				isCoded(t, "StopsFor", func() []any { stops, code := impl.StopsFor(list, other, column); return all(stops, code) }, same)
				isCoded(t, "WidestGap", func() []any { gap, code := impl.WidestGap(list, column, other); return all(gap, code) }, same)
				isCoded(t, "WidestGap", func() []any { gap, code := impl.WidestGap(list, other, column); return all(gap, code) }, same)
			}
		}
	}
}

// Promise 1 for tables and numbers.
func TestTablesArePure(t *testing.T) {
	for _, table := range append(noTables(), shop(), cellsOf("ab", 40, 12), cellsOf("", 1, 1)) {
		rows, same := watchedTable(table, "x")
		isCoded(t, "ColumnWidths", func() []any { widths, code := impl.ColumnWidths(rows); return all(widths, code) }, same)
		for _, sides := range []string{"", "l", "r", "lr", "rrr", strings.Repeat("lr", 6), "lx", "\xff"} {
			for _, gap := range []int64{-1 << 63, -1, 0, 1, 20, 21, 1<<63 - 1} {
				isCoded(t, "TableLines", func() []any { lines, code := impl.TableLines(rows, sides, gap); return all(lines, code) }, same)
			}
		}
	}
	texts := slices.Concat(oddTexts(), noNumbers(), longTexts(), []string{"4.50", "-12", "100"})
	for _, s := range texts {
		for _, column := range append(oddNumbers(), 119, 120) {
			isCoded(t, "DecimalStart", func() []any { start, code := impl.DecimalStart(s, column); return all(start, code) })
		}
		for _, n := range [][]string{{s}, {"4.50", s}, {s, "100", s}, repeated(s, 40), repeated(s, 41)} {
			list, same := watched(n)
			isCoded(t, "AlignNumbers", func() []any { aligned, code := impl.AlignNumbers(list); return all(aligned, code) }, same)
		}
		isCoded(t, "TableLines", func() []any { lines, code := impl.TableLines(shop(), s, 2); return all(lines, code) })
		isCoded(t, "TableLines", func() []any { lines, code := impl.TableLines([][]string{{s}, {"a"}}, "r", 2); return all(lines, code) })
	}
	list, same := watched([]string{"4.50", "100", "-3.5"})
	isCoded(t, "AlignNumbers", func() []any { aligned, code := impl.AlignNumbers(list); return all(aligned, code) }, same)
}
