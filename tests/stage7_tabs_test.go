package tests

import (
	"fmt"
	"slices"
	"strings"
	"testing"

	"loop.example/g01045/impl"
)

// fullRack has MaxRack stops, from the first to the last column.
func fullRack() []int64 { return []int64{0, 1, 5, 10, 20, 30, 40, 50, 60, 70, 118, 119} }

// racks returns racks of all sizes that the document names.
func racks() [][]int64 {
	return [][]int64{nil, {}, {0}, {119}, {60}, {0, 119}, {0, 1}, {118, 119}, {2, 6}, {7, 30, 31, 99}, fullRack()[:11], fullRack()[1:], fullRack()}
}

// wrongRacks returns lists that are no racks.
func wrongRacks() [][]int64 {
	list := [][]int64{append([]int64{0, 1, 2}, fullRack()[2:]...), make([]int64, 100000), {6, 6}, {0, 0}, {119, 119}, {6, 2}, {119, 0}, {0, 3, 3}, {3, 3, 4}, {1, 3, 2}, {3, 1, 2}, {1, 5, 4, 6}, {119, 120}, {-1, 0}}
	for _, n := range []int64{-1, 120, 121, -120, -1 << 63, 1<<63 - 1} {
		list = append(list, []int64{n}, []int64{n, 5}, []int64{5, n}, []int64{5, n, 6}, append(fullRack()[:11], n), append([]int64{n}, fullRack()[1:]...))
	}
	return list
}

// edgeColumns returns the first and the last column of a page.
func edgeColumns() []int64 { return []int64{0, 119} }

// noColumns returns numbers that are no columns.
func noColumns() []int64 { return []int64{-1, 120, 121, -1 << 63, 1<<63 - 1} }

// repeated returns a list with the same item several times.
func repeated[T any](item T, times int) []T { return slices.Repeat([]T{item}, times) }

// cellsOf makes a table with the same cell everywhere.
func cellsOf(cell string, rows, cells int) [][]string {
	var table [][]string
	for range rows {
		table = append(table, repeated(cell, cells))
	}
	return table
}

// shop is the table of the given test.
func shop() [][]string { return [][]string{{"ink", "4.50"}, {"ribbon", "12"}} }

// noTables returns rows that are no tables.
func noTables() [][][]string {
	list := [][][]string{nil, {}, {{}}, {nil}, {{}, {}}, {nil, {"a"}}, {{"a"}, {}}, {{"a"}, nil}, {{"a"}, {"b", "c"}}, {{"a", "b"}, {"c"}}, {{"a", "b"}, {"c", "d"}, {"e"}}, {{"a", "b"}, {"c", "d", "e"}, {"f", "g"}},
		cellsOf("a", 41, 1), cellsOf("a", 1, 13), cellsOf("a", 40, 13), cellsOf("a", 41, 12), cellsOf("", 41, 2), cellsOf("", 0, 2), cellsOf("", 2, 0), cellsOf("a", 100000, 1), cellsOf("a", 1, 100000)}
	for _, cell := range wrongCells() {
		list = append(list, [][]string{{cell}}, [][]string{{"a", cell}}, [][]string{{cell, "a"}}, [][]string{{"a"}, {cell}}, [][]string{{"a", "b"}, {"c", cell}, {"d", "e"}})
		last := cellsOf("a", 40, 12)
		last[39][11] = cell
		list = append(list, last)
	}
	return list
}

// wrongCells returns texts that are no cells.
func wrongCells() []string {
	return []string{strings.Repeat("a", 31), strings.Repeat(" ", 31), strings.Repeat("a", 100000), "\x1f", "\x7f", "\x00", "\n", "a\t", "\x80", "\xff", "é", "日", "ab\x1fc", "abc\x7f", "\x7fabc"}
}

// wrongWidths returns lists that are no widths.
func wrongWidths() [][]int64 {
	list := [][]int64{nil, {}, repeated[int64](0, 13), repeated[int64](1, 13), make([]int64, 100000)}
	for _, n := range []int64{-1, 121, -120, -1 << 63, 1<<63 - 1} {
		list = append(list, []int64{n}, []int64{n, 1}, []int64{1, n}, []int64{1, n, 1}, append(repeated[int64](1, 11), n))
	}
	return list
}

func TestValidRack(t *testing.T) {
	is(t, "limits", all(impl.MaxRack, impl.MaxPage, impl.MaxCells, impl.MaxCellLen), 12, 120, 40, 30)
	for _, stops := range racks() {
		if !impl.ValidRack(stops) {
			t.Errorf("%v is a rack", stops)
		}
	}
	for _, stops := range wrongRacks() {
		if impl.ValidRack(stops) {
			t.Errorf("%v is no rack", stops)
		}
	}
}

func TestRackText(t *testing.T) {
	for _, c := range []struct {
		stops []int64
		want  string
	}{
		{nil, ""},
		{[]int64{0}, "T"},
		{[]int64{1}, ".T"},
		{[]int64{0, 1}, "TT"},
		{[]int64{0, 2}, "T.T"},
		{[]int64{2, 6}, "..T...T"},
		{[]int64{3, 4, 5}, "...TTT"},
		{[]int64{119}, strings.Repeat(".", 119) + "T"},
		{[]int64{0, 119}, "T" + strings.Repeat(".", 118) + "T"},
		{fullRack(), "TT...T....T.........T.........T.........T.........T.........T.........T" + strings.Repeat(".", 47) + "TT"},
	} {
		is(t, fmt.Sprint(c.stops), all(impl.RackText(c.stops)), c.want)
	}
	for _, stops := range wrongRacks() {
		is(t, fmt.Sprint("no rack ", stops), all(impl.RackText(stops)), "")
	}
}

// rackCase is a rack and a column, and what is returned for them.
type rackCase struct {
	name   string
	stops  []int64
	column int64
	want   []int64
	code   int64
}

func TestSetStop(t *testing.T) {
	for _, c := range []rackCase{
		{"the first stop of all", nil, 7, []int64{7}, impl.OK},
		{"at the first column", nil, 0, []int64{0}, impl.OK},
		{"at the last column", nil, 119, []int64{119}, impl.OK},
		{"between two", []int64{2, 6}, 4, []int64{2, 4, 6}, impl.OK},
		{"in front of the first one", []int64{2, 6}, 1, []int64{1, 2, 6}, impl.OK},
		{"behind the last one", []int64{2, 6}, 7, []int64{2, 6, 7}, impl.OK},
		{"at the first column, in front of one", []int64{1}, 0, []int64{0, 1}, impl.OK},
		{"at the last column, behind one", []int64{118}, 119, []int64{118, 119}, impl.OK},
		{"side by side", []int64{2, 6}, 3, []int64{2, 3, 6}, impl.OK},
		{"the last stop that there may be", fullRack()[:11], 119, fullRack(), impl.OK},
		{"the last stop, at the first column", fullRack()[1:], 0, fullRack(), impl.OK},
		{"where one is", []int64{2, 6}, 6, nil, impl.ErrExists},
		{"where the first one is", []int64{2, 6}, 2, nil, impl.ErrExists},
		{"where the only one is", []int64{0}, 0, nil, impl.ErrExists},
		{"where the last one of a full rack is", fullRack(), 119, nil, impl.ErrExists},
		{"where the first one of a full rack is", fullRack(), 0, nil, impl.ErrExists},
		{"a full rack", fullRack(), 2, nil, impl.ErrFull},
		{"behind most of a full rack", fullRack(), 117, nil, impl.ErrFull},
	} {
		stops, code := impl.SetStop(c.stops, c.column)
		is(t, c.name, all(stops, code), c.want, c.code)
	}
}

func TestClearStop(t *testing.T) {
	for _, c := range []rackCase{
		{"the only one", []int64{7}, 7, nil, impl.OK},
		{"the first column", []int64{0}, 0, nil, impl.OK},
		{"the last column", []int64{119}, 119, nil, impl.OK},
		{"the first one", []int64{2, 6, 9}, 2, []int64{6, 9}, impl.OK},
		{"the one in the middle", []int64{2, 6, 9}, 6, []int64{2, 9}, impl.OK},
		{"the last one", []int64{2, 6, 9}, 9, []int64{2, 6}, impl.OK},
		{"the last one of a full rack", fullRack(), 119, fullRack()[:11], impl.OK},
		{"the first one of a full rack", fullRack(), 0, fullRack()[1:], impl.OK},
		{"no stop at all", nil, 0, nil, impl.ErrNotFound},
		{"none there", []int64{2, 6}, 3, nil, impl.ErrNotFound},
		{"in front of the first one", []int64{2, 6}, 1, nil, impl.ErrNotFound},
		{"behind the last one", []int64{2, 6}, 7, nil, impl.ErrNotFound},
		{"at the first column", []int64{2, 6}, 0, nil, impl.ErrNotFound},
		{"at the last column", []int64{2, 6}, 119, nil, impl.ErrNotFound},
		{"none there in a full rack", fullRack(), 2, nil, impl.ErrNotFound},
	} {
		stops, code := impl.ClearStop(c.stops, c.column)
		is(t, c.name, all(stops, code), c.want, c.code)
	}
}

func TestNextStop(t *testing.T) {
	for _, c := range []struct {
		name         string
		stops        []int64
		column, want int64
		code         int64
	}{
		{"from a stop", []int64{2, 6}, 2, 6, impl.OK},
		{"from between two", []int64{2, 6}, 3, 6, impl.OK},
		{"from just in front of one", []int64{2, 6}, 5, 6, impl.OK},
		{"from in front of the first one", []int64{2, 6}, 1, 2, impl.OK},
		{"from the first column", []int64{2, 6}, 0, 2, impl.OK},
		{"from the first column, where one is", []int64{0, 1}, 0, 1, impl.OK},
		{"to the last column", []int64{119}, 0, 119, impl.OK},
		{"to the last column, from the one before", []int64{118, 119}, 118, 119, impl.OK},
		{"to the last one of a full rack", fullRack(), 71, 118, impl.OK},
		{"from the last stop", []int64{2, 6}, 6, 0, impl.ErrNotFound},
		{"from behind the last stop", []int64{2, 6}, 7, 0, impl.ErrNotFound},
		{"from the last column", []int64{2, 6}, 119, 0, impl.ErrNotFound},
		{"from the last column, where one is", fullRack(), 119, 0, impl.ErrNotFound},
		{"no stop at all", nil, 0, 0, impl.ErrNotFound},
		{"no stop but the one at the first column", []int64{0}, 0, 0, impl.ErrNotFound},
	} {
		next, code := impl.NextStop(c.stops, c.column)
		is(t, c.name, all(next, code), c.want, c.code)
	}
}

// rackReturns checks that all functions on a rack and a column return a code other than OK, and nothing beside it.
func rackReturns(t *testing.T, stops []int64, column, want int64) {
	t.Helper()
	rack, code := impl.SetStop(stops, column)
	is(t, "SetStop", all(rack, code), []int64{}, want)
	rack, code = impl.ClearStop(stops, column)
	is(t, "ClearStop", all(rack, code), []int64{}, want)
	next, code := impl.NextStop(stops, column)
	is(t, "NextStop", all(next, code), 0, want)
}

func TestWrongRacksAndColumns(t *testing.T) {
	for _, column := range noColumns() {
		for _, stops := range racks() {
			rackReturns(t, stops, column, impl.ErrRange)
		}
		for _, stops := range wrongRacks() {
			rackReturns(t, stops, column, impl.ErrInvalid)
		}
	}
	for _, stops := range wrongRacks() {
		for _, column := range append(edgeColumns(), 5, 6) {
			rackReturns(t, stops, column, impl.ErrInvalid)
		}
	}
}

func TestColumnWidths(t *testing.T) {
	for _, c := range []struct {
		name string
		rows [][]string
		want []int64
	}{
		{"the given example", shop(), []int64{6, 4}},
		{"one cell", [][]string{{"a"}}, []int64{1}},
		{"one cell of no byte", [][]string{{""}}, []int64{0}},
		{"one blank", [][]string{{" "}}, []int64{1}},
		{"the bytes 32 and 126", [][]string{{" ~", "~ ~"}}, []int64{2, 3}},
		{"cells of no byte", cellsOf("", 3, 2), []int64{0, 0}},
		{"a column of cells of no byte", [][]string{{"", "a"}, {"", "bc"}}, []int64{0, 2}},
		{"the longest cell in the first row", [][]string{{"abc"}, {"a"}, {""}}, []int64{3}},
		{"the longest cell in the last row", [][]string{{""}, {"a"}, {"abc"}}, []int64{3}},
		{"blanks count", [][]string{{"a  "}, {"  "}}, []int64{3}},
		{"the longest cell that there may be", [][]string{{strings.Repeat("x", 30)}, {"y"}}, []int64{30}},
		{"each column for itself", [][]string{{"a", "bbb", ""}, {"aa", "b", "c"}}, []int64{2, 3, 1}},
		{"the largest table", cellsOf(strings.Repeat("~", 30), 40, 12), repeated[int64](30, 12)},
		{"the most rows", cellsOf("a", 40, 1), []int64{1}},
		{"the most cells", cellsOf("a", 1, 12), repeated[int64](1, 12)},
	} {
		widths, code := impl.ColumnWidths(c.rows)
		is(t, c.name, all(widths, code), c.want, impl.OK)
	}
}

func TestTableLines(t *testing.T) {
	for _, c := range []struct {
		name  string
		rows  [][]string
		sides string
		gap   int64
		want  []string
	}{
		{"the given example", shop(), "lr", 2, []string{"ink     4.50", "ribbon    12"}},
		{"the other sides", shop(), "rl", 2, []string{"   ink  4.50", "ribbon  12  "}},
		{"all to the left", shop(), "ll", 1, []string{"ink    4.50", "ribbon 12  "}},
		{"all to the right", shop(), "rr", 1, []string{"   ink 4.50", "ribbon   12"}},
		{"no gap", shop(), "lr", 0, []string{"ink   4.50", "ribbon  12"}},
		{"the widest gap", [][]string{{"a", "b"}}, "lr", 20, []string{"a" + strings.Repeat(" ", 20) + "b"}},
		{"one cell", [][]string{{"a"}}, "l", 20, []string{"a"}},
		{"one column", [][]string{{"a"}, {"bc"}}, "r", 3, []string{" a", "bc"}},
		{"one cell of no byte", [][]string{{""}}, "r", 0, []string{""}},
		{"cells of no byte", cellsOf("", 2, 3), "lrl", 1, []string{"  ", "  "}},
		{"blanks behind the last column", [][]string{{"a", ""}, {"b", "cd"}}, "ll", 1, []string{"a   ", "b cd"}},
		{"blanks in a cell stay", [][]string{{" a", "b "}, {"cdef", "ghij"}}, "rl", 1, []string{"   a b   ", "cdef ghij"}},
		{"a column without width", [][]string{{"a", "", "b"}}, "lrl", 2, []string{"a    b"}},
		{"the most cells", cellsOf("a", 1, 12), "lrlrlrlrlrlr", 1, []string{"a a a a a a a a a a a a"}},
		{"the largest table", cellsOf(strings.Repeat("~", 30), 40, 12), strings.Repeat("r", 12), 20,
			repeated(strings.Join(repeated(strings.Repeat("~", 30), 12), strings.Repeat(" ", 20)), 40)},
	} {
		lines, code := impl.TableLines(c.rows, c.sides, c.gap)
		is(t, c.name, all(fmt.Sprintf("%q", lines), code), fmt.Sprintf("%q", c.want), impl.OK)
	}
}

func TestWrongTablesSidesAndGaps(t *testing.T) {
	for _, rows := range noTables() {
		widths, code := impl.ColumnWidths(rows)
		is(t, "ColumnWidths", all(widths, code), []int64{}, impl.ErrInvalid)
		for _, sides := range []string{"", "l", "lr", "x", strings.Repeat("l", 12)} {
			for _, gap := range []int64{-1, 0, 20, 21} {
				lines, code := impl.TableLines(rows, sides, gap)
				is(t, "TableLines", all(lines, code), []string{}, impl.ErrInvalid)
			}
		}
	}
	for _, sides := range []string{"", "l", "r", "lrl", "llll", "lx", "xr", "L", "LR", "lR", "l ", " l", "l r", "l\x00", "lé", "\xff\xff", "l\n", "xx", strings.Repeat("lr", 50000)} {
		for _, gap := range []int64{0, 2, 20, 21} {
			lines, code := impl.TableLines(shop(), sides, gap)
			is(t, "sides "+sides, all(lines, code), []string{}, impl.ErrRange)
		}
	}
	for _, gap := range []int64{-1, 21, 22, -20, -1 << 63, 1<<63 - 1} {
		for _, rows := range [][][]string{shop(), cellsOf("", 1, 2), cellsOf("a", 40, 2)} {
			lines, code := impl.TableLines(rows, "lr", gap)
			is(t, "gap", all(lines, code), []string{}, impl.ErrRange)
		}
		lines, code := impl.TableLines([][]string{{"a"}}, "l", gap)
		is(t, "gap of one column", all(lines, code), []string{}, impl.ErrRange)
	}
	lines, code := impl.TableLines(cellsOf("a", 1, 12), strings.Repeat("l", 11), 1)
	is(t, "a side less than MaxRack", all(lines, code), []string{}, impl.ErrRange)
	lines, code = impl.TableLines(cellsOf("a", 1, 12), strings.Repeat("l", 13), 1)
	is(t, "a side more than MaxRack", all(lines, code), []string{}, impl.ErrRange)
}

func TestCellsByEachByte(t *testing.T) {
	for c := range 256 {
		cell := string([]byte{byte(c)})
		for _, rows := range [][][]string{{{cell}}, {{"a"}, {cell}}, {{"a" + cell}}} {
			name := fmt.Sprintf("the byte %d", c)
			lines, code := impl.TableLines(rows, "l", 0)
			widths, widthsCode := impl.ColumnWidths(rows)
			if c < 32 || c > 126 {
				is(t, name, all(lines, code, widths, widthsCode), []string{}, impl.ErrInvalid, []int64{}, impl.ErrInvalid)
				continue
			}
			last := len(rows) - 1
			is(t, name, all(lines[last], code, widths, widthsCode), rows[last][0], impl.OK, []int64{int64(len(rows[last][0]))}, impl.OK)
		}
	}
}

func TestStopsFor(t *testing.T) {
	for _, c := range []struct {
		name      string
		widths    []int64
		left, gap int64
		want      []int64
		code      int64
	}{
		{"the given example", []int64{6, 4, 5}, 10, 2, []int64{10, 18, 24}, impl.OK},
		{"one width", []int64{6}, 10, 2, []int64{10}, impl.OK},
		{"one column without width", []int64{0}, 0, 1, []int64{0}, impl.OK},
		{"one column without width at the last column", []int64{0}, 119, 120, []int64{119}, impl.OK},
		{"one column at the last column", []int64{1}, 119, 1, []int64{119}, impl.OK},
		{"one column behind the last column", []int64{2}, 119, 1, nil, impl.ErrFull},
		{"one column as wide as the page", []int64{120}, 0, 1, []int64{0}, impl.OK},
		{"one column as wide as the page, one further", []int64{120}, 1, 1, nil, impl.ErrFull},
		{"the last one ends at MaxPage", []int64{60, 59}, 0, 1, []int64{0, 61}, impl.OK},
		{"the last one ends one behind MaxPage", []int64{60, 60}, 0, 1, nil, impl.ErrFull},
		{"from one further on it ends behind MaxPage", []int64{60, 59}, 1, 1, nil, impl.ErrFull},
		{"with a gap more it ends behind MaxPage", []int64{60, 59}, 0, 2, nil, impl.ErrFull},
		{"the last one begins at the last column", []int64{100, 1}, 0, 19, []int64{0, 119}, impl.OK},
		{"the last one, without width, begins at the last column", []int64{100, 0}, 0, 19, []int64{0, 119}, impl.OK},
		{"the last one, without width, begins and ends at MaxPage", []int64{100, 0}, 0, 20, nil, impl.ErrFull},
		{"the last one, without width, behind a column that ends at MaxPage", []int64{119, 0}, 0, 1, nil, impl.ErrFull},
		{"no widths", []int64{0, 0, 0}, 0, 1, []int64{0, 1, 2}, impl.OK},
		{"no widths, the widest gap", []int64{0, 0}, 0, 120, nil, impl.ErrFull},
		{"no widths, one less than the widest gap", []int64{0, 0}, 0, 119, []int64{0, 119}, impl.OK},
		{"no widths, from the last column on", []int64{0, 0}, 119, 1, nil, impl.ErrFull},
		{"no widths, from the column before on", []int64{0, 0}, 118, 1, []int64{118, 119}, impl.OK},
		{"no widths, in the middle of a list", []int64{5, 0, 5}, 1, 2, []int64{1, 8, 10}, impl.OK},
		{"the most widths", repeated[int64](0, 12), 0, 10, []int64{0, 10, 20, 30, 40, 50, 60, 70, 80, 90, 100, 110}, impl.OK},
		{"the most widths, up to the last column", repeated[int64](0, 12), 9, 10, []int64{9, 19, 29, 39, 49, 59, 69, 79, 89, 99, 109, 119}, impl.OK},
		{"the most widths, one too far", repeated[int64](0, 12), 10, 10, nil, impl.ErrFull},
		{"the most widths that fill a page", append(repeated[int64](9, 11), 10), 0, 1, []int64{0, 10, 20, 30, 40, 50, 60, 70, 80, 90, 100, 110}, impl.OK},
		{"the most widths, one more than fill a page", append(repeated[int64](9, 11), 11), 0, 1, nil, impl.ErrFull},
		{"the greatest numbers", repeated[int64](120, 12), 119, 120, nil, impl.ErrFull},
	} {
		stops, code := impl.StopsFor(c.widths, c.left, c.gap)
		is(t, c.name, all(stops, code), c.want, c.code)
	}
}

func TestWrongStopsFor(t *testing.T) {
	for _, widths := range append(wrongWidths(), []int64{0}, []int64{120, 120}, []int64{6, 4, 5}) {
		for _, left := range noColumns() {
			for _, gap := range []int64{-1, 0, 1, 120, 121} {
				stops, code := impl.StopsFor(widths, left, gap)
				is(t, "left is no column", all(stops, code), []int64{}, impl.ErrRange)
			}
		}
		for _, gap := range []int64{0, -1, 121, 122, -1 << 63, 1<<63 - 1} {
			for _, left := range edgeColumns() {
				stops, code := impl.StopsFor(widths, left, gap)
				is(t, "a wrong gap", all(stops, code), []int64{}, impl.ErrRange)
			}
		}
	}
	for _, widths := range wrongWidths() {
		for _, left := range edgeColumns() {
			for _, gap := range []int64{1, 120} {
				stops, code := impl.StopsFor(widths, left, gap)
				is(t, fmt.Sprint("wrong widths ", len(widths)), all(stops, code), []int64{}, impl.ErrRange)
			}
		}
	}
}

func TestWidestGap(t *testing.T) {
	for _, c := range []struct {
		name        string
		widths      []int64
		left, right int64
		want        int64
		code        int64
	}{
		{"the given example", []int64{6, 4, 5}, 10, 32, 3, impl.OK},
		{"the next gap", []int64{6, 4, 5}, 10, 33, 4, impl.OK},
		{"a blank remains", []int64{6, 4, 5}, 10, 30, 2, impl.OK},
		{"just a gap of 1", []int64{6, 4, 5}, 10, 27, 1, impl.OK},
		{"one less", []int64{6, 4, 5}, 10, 26, 0, impl.ErrFull},
		{"no gap at all", []int64{6, 4, 5}, 10, 25, 0, impl.ErrFull},
		{"the columns alone do not fit", []int64{6, 4, 5}, 10, 24, 0, impl.ErrFull},
		{"nothing fits", []int64{6, 4, 5}, 10, 10, 0, impl.ErrFull},
		{"much too wide", repeated[int64](120, 12), 0, 120, 0, impl.ErrFull},
		{"much too wide, from MaxPage on", repeated[int64](120, 12), 120, 120, 0, impl.ErrFull},
		{"from MaxPage on", []int64{0, 0}, 120, 120, 0, impl.ErrFull},
		{"up to 0", []int64{0, 0}, 0, 0, 0, impl.ErrFull},
		{"from 0 to 1", []int64{0, 0}, 0, 1, 1, impl.OK},
		{"from the last column to MaxPage", []int64{0, 0}, 119, 120, 1, impl.OK},
		{"no widths on the whole page", []int64{0, 0}, 0, 120, 120, impl.OK},
		{"no widths and two gaps", []int64{0, 0, 0}, 0, 120, 60, impl.OK},
		{"the most widths, just a gap of 1", repeated[int64](0, 12), 0, 11, 1, impl.OK},
		{"the most widths, one less", repeated[int64](0, 12), 0, 10, 0, impl.ErrFull},
		{"the most widths on the whole page", repeated[int64](5, 12), 0, 120, 5, impl.OK},
		{"a page that is filled", []int64{60, 59}, 0, 120, 1, impl.OK},
		{"a page that is too small", []int64{60, 60}, 0, 120, 0, impl.ErrFull},
		{"a wide column that is none", []int64{119, 0}, 0, 120, 1, impl.OK},
		{"one width", []int64{6}, 10, 26, 0, impl.ErrState},
		{"one width that does not fit", []int64{120}, 10, 26, 0, impl.ErrState},
		{"one width of 0, no room", []int64{0}, 0, 0, 0, impl.ErrState},
		{"one width at MaxPage", []int64{0}, 120, 120, 0, impl.ErrState},
	} {
		gap, code := impl.WidestGap(c.widths, c.left, c.right)
		is(t, c.name, all(gap, code), c.want, c.code)
	}
}

func TestWrongWidestGap(t *testing.T) {
	for _, widths := range append(wrongWidths(), []int64{0}, []int64{120, 120}, []int64{6, 4, 5}) {
		for _, c := range [][2]int64{{11, 10}, {32, 10}, {120, 119}, {1, 0}, {120, 0}, {-1, 0}, {-1, 120}, {-1, -1}, {0, -1}, {0, 121}, {120, 121}, {121, 121}, {121, 120}, {-1, 121}, {121, -1},
			{-1 << 63, 1<<63 - 1}, {1<<63 - 1, -1 << 63}, {-1 << 63, 0}, {-1 << 63, -1 << 63}, {0, 1<<63 - 1}, {1<<63 - 1, 1<<63 - 1}} {
			gap, code := impl.WidestGap(widths, c[0], c[1])
			is(t, fmt.Sprint("from ", c[0], " to ", c[1]), all(gap, code), 0, impl.ErrRange)
		}
	}
	for _, widths := range wrongWidths() {
		for _, c := range [][2]int64{{0, 120}, {0, 0}, {120, 120}, {10, 32}} {
			gap, code := impl.WidestGap(widths, c[0], c[1])
			is(t, fmt.Sprint("wrong widths ", len(widths)), all(gap, code), 0, impl.ErrRange)
		}
	}
}
