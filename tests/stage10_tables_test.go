package tests

import (
	"fmt"
	"strings"
	"testing"

	"loop.example/g01045/impl"
)

// fullStops has MaxStops stops, from the first to the last column that may have one.
func fullStops() []int64 { return []int64{1, 5, 10, 20, 29, 30} }

// rightStops returns stops of all sizes that the document names.
func rightStops() [][]int64 {
	return [][]int64{nil, {}, {1}, {30}, {10}, {1, 2}, {1, 30}, {29, 30}, {4, 9}, {4, 12, 13}, {3, 6, 9, 12}, fullStops()[:5], fullStops()[1:], fullStops(), upTo(6), {25, 26, 27, 28, 29, 30}}
}

// wrongStops returns lists that are no stops.
func wrongStops() [][]int64 {
	list := [][]int64{append(fullStops()[:5:5], 6, 30), {1, 5, 10, 20, 28, 29, 30}, upTo(7), upTo(100000), make([]int64, 100000), {6, 6}, {1, 1}, {30, 30}, {6, 2}, {30, 1}, {1, 3, 3}, {3, 3, 4}, {1, 3, 2}, {3, 1, 2}, {1, 5, 4, 6}, {30, 31}, {0, 1}, {1, 5, 10, 20, 30, 30}}
	for _, n := range []int64{0, 31, -1, 32, -30, -1 << 63, 1<<63 - 1, 1<<32 + 5} {
		list = append(list, []int64{n}, []int64{n, 5}, []int64{5, n}, []int64{5, n, 6}, append(fullStops()[:5:5], n), append([]int64{n}, fullStops()[1:]...))
	}
	return list
}

// noTableColumns returns numbers that are no columns of the carriage.
func noTableColumns() []int64 {
	return []int64{-1, 31, 32, -30, -1 << 63, 1<<63 - 1, 1 << 32, 1<<32 + 5}
}

// rightRows returns rows of all sorts.
func rightRows() []string {
	return []string{"", "a", " a", "!", "~", "'", "#", "<", ">", "'#<>", "a b", "a  b", "   a", "  '  #  <  >", " !  ~", x(29), x(30), gap(29) + "a", "a" + gap(28) + "b", strings.Repeat("a ", 14) + "a", strings.Repeat(" a", 15), strings.Repeat("'", 30)}
}

// wrongRows returns texts that are no rows.
func wrongRows() []string {
	list := []string{" ", "  ", "a ", "a  ", " a ", "a b ", gap(29), gap(30), x(29) + " ", gap(28) + "a ", "' ", "> ",
		x(31), x(32), gap(31), gap(30) + "a", "a" + gap(29) + "b", x(30) + " ", x(100000), "é", "日", "a\u00a0b", "\u2003", "a\tb", "a\nb", "a\x1f", "\x1fa", "a\x7f", "\x7fa", "a\x1fb", "a \x7f b", x(29) + "\x7f", x(29) + "\x1f"}
	for _, c := range []byte{0, 9, 10, 11, 12, 13, 31, 127, 128, 133, 160, 255} {
		list = append(list, string([]byte{c}), string([]byte{'a', c, 'a'}))
	}
	return list
}

// rowLists returns lists that have a row at different places.
func rowLists(row string) [][]string {
	return [][]string{{row}, {"a", row}, {row, "a"}, {"a", row, "b"}, append(repeated("a", 11), row), append([]string{row}, repeated("a", 11)...)}
}

// tooManyRows returns lists of more than MaxRows rows.
func tooManyRows() [][]string {
	return [][]string{repeated("", 13), repeated("a", 13), repeated(x(30), 13), repeated("a", 14), repeated("a", 100000), repeated("\x7f", 13), repeated("a ", 13), append(repeated("a", 12), x(31))}
}

// planCase is a plan, its row and the number of its moves.
type planCase struct {
	name, plan, row string
	moves           int64
}

// rightPlans returns plans that can be typed with a stop at the column 10, and their rows and moves.
func rightPlans() []planCase {
	return []planCase{
		{"no byte", "", "", 0},
		{"one letter", "'a", "a", 0},
		{"the least and the greatest letter", "'!'~", "!~", 0},
		{"the example", "'a#'b", "a         b", 1},
		{"moves only", "#<>", "", 3},
		{"a tab beyond and back again", "#<'b", gap(9) + "b", 2},
		{"moves behind the last letter", "'a>>#<", "a", 4},
		{"a mark as a letter", "''", "'", 0},
		{"two marks as letters", "''''", "''", 0},
		{"a mark as a letter, then another letter", "'''a", "'a", 0},
		{"a mark as a letter, then a move", "''>'a", "' a", 1},
		{"letters like moves", "'#'<'>", "#<>", 0},
		{"letters like moves, and moves", "'##'<<<'>", "#        ><", 3},
		{"a space as a letter, then a space", "'>>'a", "> a", 1},
		{"letters in front of others", ">'b<<'a", "ab", 3},
		{"letters from the right to the left", "#'c<<<<'b<<<<<'a", "   a   b  c", 10},
		{"around a letter", "'a<>'b", "ab", 2},
		{"a letter behind one that was typed before", ">'b>'d<<'c", " bcd", 4},
		{"over another letter, without typing", "'a<>>'b", "a b", 3},
		{"a letter at the last column", strings.Repeat(">", 29) + "'a", gap(29) + "a", 29},
		{"a tab and spaces to the last column", "#" + strings.Repeat(">", 19) + "'a", gap(29) + "a", 20},
		{"all spaces and all back spaces", strings.Repeat(">", 30) + strings.Repeat("<", 30), "", 60},
		{"the last column from behind", strings.Repeat(">", 30) + "<'a", gap(29) + "a", 31},
		{"a back space behind the last column", strings.Repeat(">", 29) + "'a<<'b", gap(28) + "ba", 31},
		{"letters in all columns", strings.Repeat("'x", 30), x(30), 0},
		{"letters in all columns, and all the way back", strings.Repeat("'x", 30) + strings.Repeat("<", 30), x(30), 30},
		{"a plan of MaxPlan bytes", strings.Repeat("><", 100), "", 200},
		{"a plan of MaxPlan bytes, with a letter at its end", strings.Repeat("><", 99) + "'a", "a", 198},
		{"a plan of one byte less", strings.Repeat("><", 99) + ">", "", 199},
	}
}

// brokenPlans returns plans whose moves and letters can be read, but not all be done with a stop at the column 10, and the numbers of moves.
func brokenPlans() []planCase {
	return []planCase{
		{"a back space at the first column", "<", "", 1},
		{"a back space at the first column, then the way on", "<>'a", "", 2},
		{"one back space too many", ">><<<", "", 5},
		{"one back space too many behind a letter", "'a<<", "", 2},
		{"one space too many", strings.Repeat(">", 31), "", 31},
		{"one space too many, and back", strings.Repeat(">", 31) + "<", "", 32},
		{"a space behind the last letter of all", strings.Repeat("'x", 30) + ">", "", 1},
		{"a tab behind the last stop", "##", "", 2},
		{"a tab at the last stop", strings.Repeat(">", 10) + "#", "", 11},
		{"a tab behind the last stop, then a letter", "#>#'a", "", 3},
		{"a letter at the column MaxColumns", strings.Repeat(">", 30) + "'a", "", 30},
		{"a letter more than columns", strings.Repeat("'x", 31), "", 0},
		{"a letter over another one", "'a<'b", "", 1},
		{"a letter over the same one", "'a<'a", "", 1},
		{"a letter over another one, later", "'a#'b<<'c<<<<<<<<<<'d", "", 13},
		{"a mark over a mark", "''<''", "", 1},
		{"letters up to another one", ">>'c<<<'a'b'd", "", 5},
		{"a plan of MaxPlan bytes with an end that does not exist", strings.Repeat("><", 99) + "<<", "", 200},
	}
}

// unreadablePlans returns texts that have other bytes than a plan, or too many.
func unreadablePlans() []string {
	list := []string{"'", "'a'", "'''", "#'", ">'", "' ", "' 'a", "'  ", "'a ", " ", " 'a", "'a 'b", "a", "aa", "a'", "a'b", "'ab", "'aa'b", "'a#b", "-", "+", "=", "?", "\"a", "`a",
		"'\x1f", "'\x7f", "'\x00", "'\xff", "'é", "'日", "é", "日", "'a\n", "\n", "\t", "'a\x00", ">\x7f", "'\xc3", "'\xef\xbf\xbd", "\xef\xbf\xbd",
		strings.Repeat("><", 100) + ">", strings.Repeat("><", 99) + ">'a", strings.Repeat("><", 99) + ">'", strings.Repeat("><", 99) + "' ", strings.Repeat("'x", 101), strings.Repeat(">", 201), strings.Repeat(">", 100000), strings.Repeat("'", 201), x(200), gap(200)}
	for c := range 256 {
		if !strings.ContainsRune("'#<>", rune(c)) {
			list = append(list, string([]byte{byte(c)}), string([]byte{'>', byte(c), '<'}), string([]byte{'\'', 'a', byte(c)}))
		}
	}
	return list
}

func TestValidStops(t *testing.T) {
	is(t, "limits", all(impl.MaxColumns, impl.MaxStops, impl.MaxRows, impl.MaxPlan), 30, 6, 12, 200)
	for _, stops := range rightStops() {
		if !impl.ValidStops(stops) {
			t.Errorf("%v are stops", stops)
		}
	}
	for _, stops := range wrongStops() {
		if impl.ValidStops(stops) {
			t.Errorf("%.60s are no stops", fmt.Sprint(stops))
		}
	}
}

func TestMovesAndPlanBetween(t *testing.T) {
	for _, c := range []struct {
		name     string
		stops    []int64
		from, to int64
		want     string
	}{
		{"the example: a tab beyond the column, and back", []int64{10}, 0, 9, "#<"},
		{"to the stop", []int64{10}, 0, 10, "#"},
		{"from the column in front of the stop, where a tab is less than a space", []int64{10}, 9, 10, "#"},
		{"one column on, where the tab leads further", []int64{10}, 8, 9, ">"},
		{"two ways of 2 moves", []int64{10}, 7, 9, "#<"},
		{"two ways of 2 moves from two columns before", []int64{3}, 0, 2, "#<"},
		{"two ways of 3 moves", []int64{4}, 0, 2, ">>"},
		{"two ways of 3 moves, with a tab", []int64{5}, 0, 3, "#<<"},
		{"a tab beyond that is one move more", []int64{6}, 0, 3, ">>>"},
		{"a tab, then spaces", []int64{10}, 0, 13, "#>>>"},
		{"from the stop on", []int64{10}, 10, 13, ">>>"},
		{"behind the last stop", []int64{10}, 11, 13, ">>"},
		{"two tabs", []int64{4, 9}, 0, 9, "##"},
		{"two tabs and back", []int64{4, 9}, 0, 8, "##<"},
		{"a tab and two spaces, or two tabs and back", []int64{4, 7}, 0, 6, "##<"},
		{"a tab and two spaces, as two tabs lead too far", []int64{4, 8}, 0, 6, "#>>"},
		{"a tab and a space, or two tabs and back", []int64{4, 6}, 0, 5, "#>"},
		{"stops side by side", []int64{1, 2, 3}, 0, 3, "###"},
		{"the second of two stops side by side", []int64{9, 10}, 0, 10, "##"},
		{"all tabs", fullStops(), 0, 30, "######"},
		{"a stop behind each space", []int64{1, 2, 3, 4, 5, 6}, 0, 8, "######>>"},
		{"equal columns", []int64{10}, 7, 7, ""},
		{"equal columns, the first one", nil, 0, 0, ""},
		{"equal columns, the last one", []int64{30}, 30, 30, ""},
		{"equal columns at a stop", []int64{10}, 10, 10, ""},
		{"a way back", []int64{10}, 13, 11, "<<"},
		{"a way back over a stop", []int64{10}, 13, 8, "<<<<<"},
		{"a way back to a stop", []int64{10}, 13, 10, "<<<"},
		{"a way back to the first column", nil, 5, 0, "<<<<<"},
		{"one column back", []int64{5}, 4, 3, "<"},
		{"all the way back", fullStops(), 30, 0, strings.Repeat("<", 30)},
		{"all the way on without stops", nil, 0, 30, strings.Repeat(">", 30)},
		{"to the last column by a tab", []int64{30}, 0, 30, "#"},
		{"the middle, with a stop at the last column", []int64{30}, 0, 15, strings.Repeat(">", 15)},
		{"one further, with a stop at the last column", []int64{30}, 0, 16, "#" + strings.Repeat("<", 14)},
		{"the last column but one", []int64{30}, 0, 29, "#<"},
		{"to the first stop that there may be", []int64{1}, 0, 1, "#"},
		{"the same without it", nil, 0, 1, ">"},
		{"the first stop, from where it is of no use", []int64{1}, 1, 3, ">>"},
		{"a tab from in front of the last column", []int64{30}, 29, 30, "#"},
	} {
		plan, code := impl.PlanBetween(c.stops, c.from, c.to)
		is(t, "PlanBetween, "+c.name, all(plan, code), c.want, impl.OK)
		moves, code := impl.MovesBetween(c.stops, c.from, c.to)
		is(t, "MovesBetween, "+c.name, all(moves, code), len(c.want), impl.OK)
	}
}

// waysReturn checks what the functions on two columns return if there is no result.
func waysReturn(t *testing.T, stops []int64, from, to, want int64) {
	t.Helper()
	name := fmt.Sprintf(" from %d to %d with %.60s", from, to, fmt.Sprint(stops))
	moves, code := impl.MovesBetween(stops, from, to)
	is(t, "MovesBetween"+name, all(moves, code), 0, want)
	plan, code := impl.PlanBetween(stops, from, to)
	is(t, "PlanBetween"+name, all(one(plan), code), one(""), want)
}

func TestNoWays(t *testing.T) {
	for _, column := range noTableColumns() {
		for _, stops := range rightStops() {
			for _, other := range append(noTableColumns(), 0, 1, 10, 29, 30, column) {
				waysReturn(t, stops, column, other, impl.ErrRange)
				waysReturn(t, stops, other, column, impl.ErrRange)
			}
		}
	}
	for _, stops := range wrongStops() {
		for _, column := range append(noTableColumns(), 0, 1, 10, 29, 30) {
			waysReturn(t, stops, 0, column, impl.ErrInvalid)
			waysReturn(t, stops, column, 30, impl.ErrInvalid)
			waysReturn(t, stops, column, column, impl.ErrInvalid)
		}
	}
	for from := range int64(31) {
		for to := range int64(31) {
			_, code := impl.PlanBetween(nil, from, to)
			is(t, fmt.Sprint("from ", from, " to ", to), all(code), impl.OK)
		}
	}
}

func TestRowPlan(t *testing.T) {
	for _, c := range []struct {
		name  string
		stops []int64
		row   string
		want  string
	}{
		{"the given row", []int64{10}, "a         b", "'a#'b"},
		{"no byte", []int64{10}, "", ""},
		{"one letter", []int64{10}, "a", "'a"},
		{"letters side by side", []int64{1, 2}, "abc", "'a'b'c"},
		{"a blank at the beginning", nil, " a", ">'a"},
		{"a blank at the beginning, with a stop there", []int64{1}, " a", "#'a"},
		{"blanks between letters", nil, "a  b", "'a>>'b"},
		{"a letter in front of a stop", []int64{10}, "a        b", "'a#<'b"},
		{"a letter behind a stop", []int64{10}, "a          b", "'a#>'b"},
		{"a tab from behind the letter before", []int64{1}, "a b", "'a>'b"},
		{"a tab over one blank", []int64{2}, "a b", "'a#'b"},
		{"two stops over one another", []int64{5, 10}, "a         b", "'a##'b"},
		{"moves as letters", []int64{10}, "#<>", "'#'<'>"},
		{"marks as letters", []int64{10}, "'''", "''''''"},
		{"moves as letters, with moves", []int64{4, 10}, ">   #     <  '", "'>#'##'<>>''"},
		{"the least and the greatest letter", nil, "! ~", "'!>'~"},
		{"a letter at the last column", nil, gap(29) + "a", strings.Repeat(">", 29) + "'a"},
		{"a letter at the last column by a tab beyond it", []int64{30}, gap(29) + "a", "#<'a"},
		{"a letter at the last column by a tab", []int64{29}, "a" + gap(28) + "b", "'a#'b"},
		{"letters in all columns", fullStops(), x(30), strings.Repeat("'x", 30)},
		{"every second column", nil, strings.Repeat(" a", 15), strings.Repeat(">'a", 15)},
		{"every second column, from the first one on", nil, strings.Repeat("a ", 14) + "a", strings.Repeat("'a>", 14) + "'a"},
		{"words", []int64{6, 12}, "ink   4.50  5", "'i'n'k#'4'.'5'0#'5"},
	} {
		plan, code := impl.RowPlan(c.stops, c.row)
		is(t, c.name, all(one(plan), code), one(c.want), impl.OK)
	}
	for _, row := range wrongRows() {
		for _, stops := range rightStops() {
			plan, code := impl.RowPlan(stops, row)
			is(t, fmt.Sprintf("no row: %.60q", row), all(one(plan), code), one(""), impl.ErrRange)
		}
		for _, stops := range wrongStops() {
			plan, code := impl.RowPlan(stops, row)
			is(t, "neither stops nor a row", all(one(plan), code), one(""), impl.ErrInvalid)
		}
	}
	for _, row := range rightRows() {
		for _, stops := range wrongStops() {
			plan, code := impl.RowPlan(stops, row)
			is(t, fmt.Sprintf("no stops for %q", row), all(one(plan), code), one(""), impl.ErrInvalid)
		}
	}
}

// Each byte is in a row or not, and in front of all others only the last one must not be a blank.
func TestRowsByEachByte(t *testing.T) {
	for c := range 256 {
		letter := string([]byte{byte(c)})
		for _, row := range []string{letter, "a" + letter, letter + "a", "a" + letter + "b"} {
			want := all(one(""), impl.ErrRange)
			if c == 32 && (row == " a" || row == "a b") {
				want = all(one(strings.NewReplacer(" ", ">", "a", "'a", "b", "'b").Replace(row)), impl.OK)
			} else if c >= 33 && c <= 126 {
				plan := ""
				for i := range len(row) {
					plan += "'" + row[i:i+1]
				}
				want = all(one(plan), impl.OK)
			}
			plan, code := impl.RowPlan(nil, row)
			is(t, fmt.Sprintf("RowPlan %q", row), all(one(plan), code), want...)
			_, code = impl.PageMoves(nil, []string{row})
			is(t, fmt.Sprintf("PageMoves %q", row), all(code), want[1])
			_, _, code = impl.BestStops([]string{row}, 0)
			is(t, fmt.Sprintf("BestStops %q", row), all(code), want[1])
			_, code = impl.StartsOf([]string{row})
			is(t, fmt.Sprintf("StartsOf %q", row), all(code), want[1])
		}
	}
}

func TestRunPlanAndPlanMoves(t *testing.T) {
	stops := []int64{10}
	for _, c := range rightPlans() {
		row, code := impl.RunPlan(stops, c.plan)
		is(t, "RunPlan, "+c.name, all(one(row), code), one(c.row), impl.OK)
		moves, code := impl.PlanMoves(c.plan)
		is(t, "PlanMoves, "+c.name, all(moves, code), c.moves, impl.OK)
	}
	for _, c := range brokenPlans() {
		row, code := impl.RunPlan(stops, c.plan)
		is(t, "RunPlan, "+c.name, all(one(row), code), one(""), impl.ErrSyntax)
		moves, code := impl.PlanMoves(c.plan)
		is(t, "PlanMoves, "+c.name, all(moves, code), c.moves, impl.OK)
	}
	for _, plan := range unreadablePlans() {
		row, code := impl.RunPlan(stops, plan)
		is(t, fmt.Sprintf("RunPlan %.60q", plan), all(one(row), code), one(""), impl.ErrSyntax)
		moves, code := impl.PlanMoves(plan)
		is(t, fmt.Sprintf("PlanMoves %.60q", plan), all(moves, code), 0, impl.ErrSyntax)
	}
	for _, wrong := range wrongStops() {
		for _, plan := range []string{"", "'a", "#", "<", "'", "a", "'a<'b", strings.Repeat(">", 201)} {
			row, code := impl.RunPlan(wrong, plan)
			is(t, fmt.Sprintf("no stops for the plan %.60q", plan), all(one(row), code), one(""), impl.ErrInvalid)
		}
	}
}

// Which letters a plan may type, and where its tabs lead.
func TestLettersAndTabsOfPlans(t *testing.T) {
	for c := 33; c <= 126; c++ {
		letter := string(rune(c))
		row, code := impl.RunPlan(nil, "'"+letter+">'"+letter)
		is(t, "the letter "+letter, all(one(row), code), one(letter+" "+letter), impl.OK)
		moves, code := impl.PlanMoves("'" + letter + ">'" + letter)
		is(t, "the moves around the letter "+letter, all(moves, code), 1, impl.OK)
	}
	for _, c := range []struct {
		stops []int64
		plan  string
		row   string
		code  int64
	}{
		{nil, "#", "", impl.ErrSyntax},
		{nil, "'a#'b", "", impl.ErrSyntax},
		{[]int64{1}, "#'a", " a", impl.OK},
		{[]int64{1}, ">#'a", "", impl.ErrSyntax},
		{[]int64{1}, "'a#", "", impl.ErrSyntax},
		{[]int64{1, 2}, "##'a", "  a", impl.OK},
		{[]int64{1, 2}, "###'a", "", impl.ErrSyntax},
		{[]int64{4, 9}, "'a#'b#'c", "a   b    c", impl.OK},
		{[]int64{4, 9}, ">>>>>#'c", gap(9) + "c", impl.OK},
		{[]int64{4, 9}, "##<<<<<<#'a", "    a", impl.OK},
		{[]int64{30}, "#", "", impl.OK},
		{[]int64{30}, "#'a", "", impl.ErrSyntax},
		{[]int64{30}, "#<'a", gap(29) + "a", impl.OK},
		{[]int64{30}, "#>", "", impl.ErrSyntax},
		{[]int64{29}, "#'a", gap(29) + "a", impl.OK},
		{[]int64{29}, "#'a'b", "", impl.ErrSyntax},
		{fullStops(), "######", "", impl.OK},
		{fullStops(), "#######", "", impl.ErrSyntax},
		{fullStops(), "#'a#'b#'c#'d#'e", " a   b    c         d        e", impl.OK},
	} {
		row, code := impl.RunPlan(c.stops, c.plan)
		is(t, fmt.Sprint(c.plan, " with ", c.stops), all(one(row), code), one(c.row), c.code)
	}
}

func TestPageMoves(t *testing.T) {
	for _, c := range []struct {
		name  string
		stops []int64
		rows  []string
		want  int64
	}{
		{"the given rows", []int64{10}, []string{"a         b", "ab"}, 1},
		{"no rows", []int64{10}, nil, 0},
		{"an empty list", nil, []string{}, 0},
		{"rows of no byte", []int64{10}, []string{"", "", ""}, 0},
		{"letters in all columns", nil, repeated(x(30), 12), 0},
		{"each row begins at the column 0", nil, []string{"  a", " b", "c d"}, 4},
		{"equal rows", []int64{10}, repeated("a         b", 12), 12},
		{"equal ways within a row", nil, []string{"a  b  c  d", " e"}, 7},
		{"letters like moves", []int64{10}, []string{"#", "<>", "'#'", "> <"}, 1},
		{"the longest ways", nil, repeated(gap(29)+"a", 12), 348},
		{"the longest ways with a tab", []int64{29}, repeated(gap(29)+"a", 12), 12},
		{"the most rows, one of them with moves", nil, append(repeated("a", 11), "  a"), 2},
	} {
		moves, code := impl.PageMoves(c.stops, c.rows)
		is(t, c.name, all(moves, code), c.want, impl.OK)
	}
}

func TestBestStops(t *testing.T) {
	for _, c := range []struct {
		name string
		rows []string
		many int64
		want []int64
		sum  int64
	}{
		{"the given row", []string{"a         b"}, 1, []int64{10}, 1},
		{"no stops", []string{"a         b"}, 0, nil, 9},
		{"two stops, of which one helps: the first list has it behind it", []string{"a         b"}, 2, []int64{1, 10}, 1},
		{"no rows and no stops", nil, 0, nil, 0},
		{"no rows: the first list", nil, 1, []int64{1}, 0},
		{"no rows: the first list of two", []string{}, 2, []int64{1, 2}, 0},
		{"rows of no byte", []string{"", ""}, 1, []int64{1}, 0},
		{"rows of no byte, two stops", []string{"", ""}, 2, []int64{1, 2}, 0},
		{"letters side by side", []string{"abc", "x"}, 2, []int64{1, 2}, 0},
		{"one blank: a tab is no less than a space", []string{" a"}, 1, []int64{1}, 1},
		{"two blanks", []string{"  a"}, 1, []int64{2}, 1},
		{"two columns, one stop: the one that is further away", []string{"   a     b"}, 1, []int64{9}, 4},
		{"two columns, two stops", []string{"   a     b"}, 2, []int64{3, 9}, 2},
		{"three columns, two stops", []string{"   a   b   c"}, 2, []int64{3, 7}, 5},
		{"columns that rows share", []string{"ab   c", "d    e", "     f    g"}, 1, []int64{5}, 7},
		{"columns that rows share, two stops", []string{"ab   c", "d    e", "     f    g"}, 2, []int64{5, 10}, 4},
		{"between two columns, the first one with equally many moves", []string{"    a", "      a"}, 1, []int64{4}, 4},
		{"the last column", []string{gap(29) + "a"}, 1, []int64{29}, 1},
		{"the last column, two stops", []string{gap(29) + "a"}, 2, []int64{29, 30}, 1},
		{"letters like moves", []string{"#    >", "'    <"}, 1, []int64{5}, 2},
		{"the most rows", repeated("a    b         c", 12), 2, []int64{5, 15}, 24},
		{"every second column", repeated(strings.Repeat(" a", 15), 12), 2, []int64{1, 2}, 180},
	} {
		best, moves, code := impl.BestStops(c.rows, c.many)
		is(t, c.name, all(best, moves, code), c.want, c.sum, impl.OK)
	}
}

func TestStartsOf(t *testing.T) {
	for _, c := range []struct {
		name string
		rows []string
		want []int64
	}{
		{"the given rows", []string{"a         b", "  c"}, []int64{0, 2, 10}},
		{"no rows", nil, nil},
		{"an empty list", []string{}, nil},
		{"rows of no byte", []string{"", ""}, nil},
		{"a word at the beginning", []string{"ink"}, []int64{0}},
		{"a word behind one blank", []string{" ink"}, []int64{1}},
		{"a word behind several blanks", []string{"    ink"}, []int64{4}},
		{"two words", []string{"ink ribbon"}, []int64{0, 4}},
		{"two words with several blanks between them", []string{"ink   ribbon"}, []int64{0, 6}},
		{"columns that rows share", []string{"a  b", "c  d", "   e"}, []int64{0, 3}},
		{"columns of rows that begin later come in order", []string{"     a", "  b", "c   d"}, []int64{0, 2, 4, 5}},
		{"a start within a word of another row", []string{"abcd", "  e"}, []int64{0, 2}},
		{"letters like moves", []string{"' # < >", "''##<<>>"}, []int64{0, 2, 4, 6}},
		{"the last column", []string{gap(29) + "a"}, []int64{29}},
		{"a word up to the last column", []string{gap(27) + "abc"}, []int64{27}},
		{"letters in all columns", []string{x(30)}, []int64{0}},
		{"every second column", []string{strings.Repeat(" a", 15)}, []int64{1, 3, 5, 7, 9, 11, 13, 15, 17, 19, 21, 23, 25, 27, 29}},
		{"all columns", []string{strings.Repeat(" a", 15), strings.Repeat("a ", 14) + "a"}, append([]int64{0}, upTo(29)...)},
		{"the most rows", append(repeated("a", 11), " b"), []int64{0, 1}},
	} {
		starts, code := impl.StartsOf(c.rows)
		is(t, c.name, all(starts, code), c.want, impl.OK)
	}
}

// pagesReturn checks what the functions on rows return if there is no result.
func pagesReturn(t *testing.T, stops []int64, rows []string, many, want int64) {
	t.Helper()
	name := fmt.Sprintf(" of %.60q, many %d", fmt.Sprint(rows), many)
	moves, code := impl.PageMoves(stops, rows)
	is(t, "PageMoves"+name, all(moves, code), 0, want)
	best, moves, code := impl.BestStops(rows, many)
	is(t, "BestStops"+name, all(best, moves, code), []int64{}, 0, want)
	starts, code := impl.StartsOf(rows)
	is(t, "StartsOf"+name, all(starts, code), []int64{}, want)
}

func TestNoPages(t *testing.T) {
	numbers := []int64{-1, 3, 4, -2, -1 << 63, 1<<63 - 1, 1 << 32, 1<<32 + 1}
	for _, rows := range tooManyRows() {
		for _, many := range append(numbers, 0, 1, 2) {
			pagesReturn(t, []int64{10}, rows, many, impl.ErrInvalid)
			pagesReturn(t, []int64{0}, rows, many, impl.ErrInvalid)
		}
	}
	for _, row := range wrongRows() {
		for _, rows := range rowLists(row) {
			for _, many := range []int64{0, 1, 2, 3, -1} {
				pagesReturn(t, []int64{10}, rows, many, impl.ErrRange)
			}
			moves, code := impl.PageMoves([]int64{31}, rows)
			is(t, "neither stops nor rows", all(moves, code), 0, impl.ErrInvalid)
		}
	}
	for _, stops := range wrongStops() {
		for _, rows := range [][]string{nil, {""}, {"a"}, {"a  b", "c"}, repeated("a", 12)} {
			moves, code := impl.PageMoves(stops, rows)
			is(t, "no stops for a page", all(moves, code), 0, impl.ErrInvalid)
		}
	}
	for _, many := range numbers {
		for _, rows := range [][]string{nil, {""}, {"a"}, {"a  b", "c"}, repeated("a", 12)} {
			best, moves, code := impl.BestStops(rows, many)
			is(t, fmt.Sprint("many ", many), all(best, moves, code), []int64{}, 0, impl.ErrRange)
		}
	}
	// All numbers of rows that may be are there.
	for n := range 13 {
		_, _, code := impl.BestStops(repeated("a", n), 2)
		moves, other := impl.PageMoves(nil, repeated(" a", n))
		starts, third := impl.StartsOf(repeated("a", n))
		is(t, fmt.Sprint(n, " rows"), all(code, moves, other, starts, third), impl.OK, n, impl.OK, repeated[int64](0, min(n, 1)), impl.OK)
	}
}
