package tests

import (
	"fmt"
	"math/rand"
	"slices"
	"strings"
	"testing"

	"loop.example/g01045/impl"
)

// moveSlowly returns the column to which a move leads; false if it does not exist.
func moveSlowly(stops []int64, column int, sign byte) (int, bool) {
	switch sign {
	case '<':
		return column - 1, column >= 1
	case '>':
		return column + 1, column <= 29
	}
	for column++; column <= 30; column++ {
		if slices.Contains(stops, int64(column)) {
			return column, true
		}
	}
	return 0, false
}

// distances are the least numbers of moves between all columns.
type distances [31][31]int

// distancesSlowly joins ways that are known, over each column in turn, to longer ones.
func distancesSlowly(stops []int64) distances {
	var d distances
	for from := range d {
		for to := range d {
			if d[from][to] = 100; from == to {
				d[from][to] = 0
			}
		}
		for _, sign := range []byte("#<>") {
			if to, exists := moveSlowly(stops, from, sign); exists {
				d[from][to] = 1
			}
		}
	}
	for over := range d {
		for from := range d {
			for to := range d {
				d[from][to] = min(d[from][to], d[from][over]+d[over][to])
			}
		}
	}
	return d
}

// leastSlowly goes on by the least move that leads nearer, again and again.
func (d *distances) leastSlowly(stops []int64, from, to int) string {
	if from == to {
		return ""
	}
	for _, sign := range []byte("#<>") {
		if next, exists := moveSlowly(stops, from, sign); exists && d[next][to] < d[from][to] {
			return string(sign) + d.leastSlowly(stops, next, to)
		}
	}
	panic("no way")
}

// drawStops returns a list of some stops, often near to one another or to an end.
func drawStops(r *rand.Rand, many int) []int64 {
	span := []int{many, 12, 30}[r.Intn(3)]
	span = max(span, many)
	least := []int{0, 30 - span, r.Intn(31 - span)}[r.Intn(3)]
	stops := []int64{}
	for _, at := range r.Perm(span)[:many] {
		stops = append(stops, int64(least+at)+1)
	}
	slices.Sort(stops)
	return stops
}

// allOrDrawnStops returns all lists of at most one stop, and drawn lists of more.
func allOrDrawnStops(r *rand.Rand, drawn int) [][]int64 {
	lists := [][]int64{nil}
	for stop := range int64(30) {
		lists = append(lists, []int64{stop + 1})
	}
	for i := range drawn {
		lists = append(lists, drawStops(r, 2+i%5))
	}
	return append(lists, rightStops()...)
}

// Chapter 11: ways between all columns are those that are joined slowly.
func TestWaysBetweenAllColumns(t *testing.T) {
	for _, stops := range allOrDrawnStops(rand.New(rand.NewSource(39)), 150) {
		d := distancesSlowly(stops)
		for from := range d {
			for to := range d {
				want := d.leastSlowly(stops, from, to)
				plan, code := impl.PlanBetween(stops, int64(from), int64(to))
				moves, other := impl.MovesBetween(stops, int64(from), int64(to))
				if plan != want || moves != int64(len(want)) || moves != int64(d[from][to]) || code != impl.OK || other != impl.OK {
					t.Fatal(stops, from, to, plan, code, moves, other, want)
				}
			}
		}
	}
}

// eachText gives all texts of some bytes, those with as many bytes by ascending bytes, the shorter ones first.
func eachText(bytes string, most int, see func(text string)) {
	texts := []string{""}
	for n := 0; ; n++ {
		var longer []string
		for _, text := range texts {
			see(text)
			for i := range len(bytes) {
				longer = append(longer, text+bytes[i:i+1])
			}
		}
		if n == most {
			return
		}
		texts = longer
	}
}

// Chapter 11: of all texts of moves, the first one that leads to a column is told for it.
func TestFirstTextsOfMovesAreTold(t *testing.T) {
	r := rand.New(rand.NewSource(40))
	lists := append(rightStops(), []int64{3}, []int64{28}, []int64{2, 4}, []int64{3, 4, 8})
	for range 10 {
		lists = append(lists, drawStops(r, 1+r.Intn(6)))
	}
	for _, stops := range lists {
		for from := range 31 {
			first := map[int]string{}
			eachText("#<>", 5, func(text string) {
				column := from
				for _, sign := range []byte(text) {
					next, exists := moveSlowly(stops, column, sign)
					if !exists {
						return
					}
					column = next
				}
				if _, known := first[column]; !known {
					first[column] = text
				}
			})
			for to := range 31 {
				plan, code := impl.PlanBetween(stops, int64(from), int64(to))
				text, known := first[to]
				if code != impl.OK || known && plan != text || !known && len(plan) <= 5 {
					t.Fatal(stops, from, to, plan, code, text, known)
				}
			}
		}
	}
}

// Promise 11: a way over another column is never shorter.
func TestNoWayOverAnotherColumnIsShorter(t *testing.T) {
	r := rand.New(rand.NewSource(41))
	for _, stops := range allOrDrawnStops(r, 100) {
		var moves [31][31]int64
		for from := range moves {
			for to := range moves {
				moves[from][to], _ = impl.MovesBetween(stops, int64(from), int64(to))
			}
		}
		for from := range moves {
			for to := range moves {
				if (moves[from][to] == 0) != (from == to) || moves[from][to] > int64(max(from-to, to-from)) {
					t.Fatal("more moves than spaces", stops, from, to, moves[from][to])
				}
				for over := range moves {
					if moves[from][to] > moves[from][over]+moves[over][to] {
						t.Fatal("a shorter way", stops, from, over, to)
					}
				}
			}
		}
	}
}

// Promise 11: a stop more behind all others never needs more moves, from any column to any other one.
func TestOneMoreStopBehindAllOthers(t *testing.T) {
	r := rand.New(rand.NewSource(42))
	for range 200 {
		stops := drawStops(r, 1+r.Intn(6))
		fewer := stops[:len(stops)-1]
		for from := range int64(31) {
			for to := range int64(31) {
				more, code := impl.MovesBetween(fewer, from, to)
				less, other := impl.MovesBetween(stops, from, to)
				if less > more || code != impl.OK || other != impl.OK {
					t.Fatal("more moves", stops, from, to, more, less)
				}
			}
		}
	}
}

// drawRow returns a row of at most most bytes, of words of letters that often look like moves.
func drawRow(r *rand.Rand, most int) string {
	bytes := []string{" '#<>a", "    !~", "        ab'", "'#<> "}[r.Intn(4)]
	return strings.TrimRight(drawText(r, bytes, most), " ")
}

// drawRows returns rows whose words often begin at the same columns.
func drawRows(r *rand.Rand) []string {
	rows := []string{}
	columns := drawStops(r, r.Intn(4))
	for range r.Intn(13) {
		if r.Intn(3) == 0 {
			rows = append(rows, drawRow(r, 30))
			continue
		}
		row := drawRow(r, 5)
		for _, column := range columns {
			if int64(len(row)) < column && column < 30 && r.Intn(4) > 0 {
				row += gap(int(column)-len(row)) + "#<'a"[r.Intn(4):][:1]
			}
		}
		rows = append(rows, row)
	}
	return rows
}

// rowPlanSlowly goes to the columns of all letters, one after the other.
func rowPlanSlowly(stops []int64, d *distances, row string) string {
	plan, column := "", 0
	for i := range len(row) {
		if row[i] != ' ' {
			plan += d.leastSlowly(stops, column, i) + "'" + row[i:i+1]
			column = i + 1
		}
	}
	return plan
}

// Promise 11: a plan types just its row, each letter once and from left to right, with the fewest moves to each one.
func TestDrawnRowsAreTyped(t *testing.T) {
	r := rand.New(rand.NewSource(43))
	moved := 0
	for i := range 400 {
		stops := drawStops(r, i%7)
		d := distancesSlowly(stops)
		for range 20 {
			row := drawRow(r, r.Intn(31))
			plan, code := impl.RowPlan(stops, row)
			is(t, fmt.Sprintf("the plan of %q with %v", row, stops), all(one(plan), code), one(rowPlanSlowly(stops, &d, row)), impl.OK)
			back, code := impl.RunPlan(stops, plan)
			is(t, "the row of "+one(plan), all(one(back), code), one(row), impl.OK)
			moves, code := impl.PlanMoves(plan)
			letters := len(strings.ReplaceAll(row, " ", ""))
			is(t, "the moves of "+one(plan), all(moves, code), len(plan)-2*letters, impl.OK)
			again, code := impl.PageMoves(stops, []string{row})
			is(t, "the moves of the page "+one(row), all(again, code), moves, impl.OK)
			moved += int(moves)
		}
	}
	if moved < 10000 {
		t.Fatal("too few moves", moved)
	}
}

// runSlowly types a plan byte by byte; its second result is false if it is none.
func runSlowly(stops []int64, plan string) (string, bool) {
	letters, column, end := map[int]byte{}, 0, 0
	for i := 0; i < len(plan); i++ {
		if plan[i] != '\'' {
			next, exists := moveSlowly(stops, column, plan[i])
			if !exists || !strings.Contains("#<>", plan[i:i+1]) {
				return "", false
			}
			column = next
			continue
		}
		i++
		if i == len(plan) || plan[i] < 33 || plan[i] > 126 || column > 29 || letters[column] != 0 {
			return "", false
		}
		letters[column] = plan[i]
		column++
		end = max(end, column)
	}
	row := ""
	for at := range end {
		if letters[at] == 0 {
			row += " "
		} else {
			row += string(rune(letters[at]))
		}
	}
	return row, len(plan) <= 200
}

// movesSlowly takes letters with their marks from the beginning, and counts what is left.
func movesSlowly(plan string) (int64, bool) {
	moves := int64(0)
	for rest := plan; rest != ""; {
		switch {
		case rest[0] == '\'' && len(rest) >= 2 && rest[1] >= 33 && rest[1] <= 126:
			rest = rest[2:]
		case rest[0] == '#' || rest[0] == '<' || rest[0] == '>':
			moves++
			rest = rest[1:]
		default:
			return 0, false
		}
	}
	return moves, len(plan) <= 200
}

// planIsThis checks a plan against the slow ways, and returns whether it is one.
func planIsThis(t *testing.T, stops []int64, plan string) bool {
	t.Helper()
	wantRow, isPlan := runSlowly(stops, plan)
	if !isPlan {
		wantRow = ""
	}
	wantMoves, isRead := movesSlowly(plan)
	if !isRead {
		wantMoves = 0
	}
	row, code := impl.RunPlan(stops, plan)
	if row != wantRow || code != okOr(isPlan, impl.ErrSyntax) {
		t.Fatalf("RunPlan %q with %v: got %q and %d, want %q", plan, stops, row, code, wantRow)
	}
	moves, code := impl.PlanMoves(plan)
	if moves != wantMoves || code != okOr(isRead, impl.ErrSyntax) {
		t.Fatalf("PlanMoves %q: got %d and %d, want %d", plan, moves, code, wantMoves)
	}
	return isPlan
}

// okOr returns OK if there is a result, and otherwise a code.
func okOr(isThere bool, code int64) int64 {
	if isThere {
		return impl.OK
	}
	return code
}

// Chapter 11: all short texts, from the first column on and near to the last one, are plans or not.
func TestAllShortPlans(t *testing.T) {
	for _, stops := range [][]int64{nil, {1}, {2, 3}, {30}} {
		plans := 0
		eachText(" '#<>a", 6, func(text string) {
			if planIsThis(t, stops, text) {
				plans++
			}
		})
		if plans < 100 {
			t.Fatal("too few plans", stops, plans)
		}
		for _, begin := range []string{strings.Repeat(">", 28), strings.Repeat(">", 25) + "'a'b'c"} {
			eachText("'#<>a", 5, func(text string) { planIsThis(t, stops, begin+text) })
		}
	}
}

// Chapter 11: drawn long plans, with columns that are left blank and typed later, and with errors.
func TestDrawnPlans(t *testing.T) {
	r := rand.New(rand.NewSource(44))
	plans, broken := 0, 0
	for i := range 6000 {
		stops := drawStops(r, i%7)
		var parts []string
		for range r.Intn(70) {
			parts = append(parts, []string{">", ">", ">>>", "<", "<", "<<", "#", "'#", "''", "'<", "'>", "'!", "'~"}[r.Intn(13)])
			if _, isPlan := runSlowly(stops, strings.Join(parts, "")); !isPlan && r.Intn(50) > 0 {
				parts = parts[:len(parts)-1] // mostly, only steps that can be done are kept
			}
		}
		if planIsThis(t, stops, strings.Join(parts, "")) {
			plans++
		} else {
			broken++
		}
	}
	if plans < 2000 || broken < 500 {
		t.Fatal("too few of a sort", plans, broken)
	}
}

// listAndDistances is a list of stops, with the moves between all columns.
type listAndDistances struct {
	stops []int64
	moves distances
}

// allStopLists returns all lists of many stops, compared number by number.
func allStopLists(many int64) []listAndDistances {
	var list []listAndDistances
	add := func(stops ...int64) { list = append(list, listAndDistances{stops, distancesSlowly(stops)}) }
	if many == 0 {
		add()
		return list
	}
	for first := int64(1); first <= 30; first++ {
		if many == 1 {
			add(first)
			continue
		}
		for second := first + 1; second <= 30; second++ {
			add(first, second)
		}
	}
	return list
}

// pageSlowly adds up the ways to all letters of all rows.
func pageSlowly(d *distances, rows []string) int64 {
	sum := 0
	for _, row := range rows {
		column := 0
		for i := range len(row) {
			if row[i] != ' ' {
				sum += d[column][i]
				column = i + 1
			}
		}
	}
	return int64(sum)
}

// Promise 11: no stops are better than the told ones, which are the first ones, and more stops never need more moves.
func TestNoStopsAreBetter(t *testing.T) {
	r := rand.New(rand.NewSource(45))
	lists := [][]listAndDistances{allStopLists(0), allStopLists(1), allStopLists(2)}
	is(t, "lists", all(len(lists[0]), len(lists[1]), len(lists[2])), 1, 30, 435)
	fewer := 0
	for range 150 {
		rows := drawRows(r)
		var before int64
		for many, list := range lists {
			want := list[0]
			least := pageSlowly(&want.moves, rows)
			for i := range list {
				if moves := pageSlowly(&list[i].moves, rows); moves < least {
					want, least = list[i], moves
				}
			}
			best, moves, code := impl.BestStops(rows, int64(many))
			is(t, fmt.Sprintf("the best %d stops for %q", many, rows), all(best, moves, code), want.stops, least, impl.OK)
			page, code := impl.PageMoves(best, rows)
			is(t, "the moves with the best stops", all(page, code), moves, impl.OK)
			if many > 0 && moves > before {
				t.Fatal("more stops need more moves", many, rows)
			}
			if many > 0 && moves < before {
				fewer++
			}
			before = moves
		}
	}
	if fewer < 100 {
		t.Fatal("too few pages for which stops help", fewer)
	}
}

// Chapter 11: the moves of a page are those of the plans of its rows, with any stops.
func TestDrawnPages(t *testing.T) {
	r := rand.New(rand.NewSource(46))
	for i := range 1000 {
		stops, rows := drawStops(r, i%7), drawRows(r)
		want := int64(0)
		for _, row := range rows {
			plan, code := impl.RowPlan(stops, row)
			is(t, "the plan of a row", all(code), impl.OK)
			moves, code := impl.PlanMoves(plan)
			is(t, "its moves", all(code), impl.OK)
			want += moves
		}
		moves, code := impl.PageMoves(stops, rows)
		is(t, fmt.Sprintf("the moves of %q with %v", rows, stops), all(moves, code), want, impl.OK)
	}
}

// Chapter 11: the starts of drawn pages, looked for column by column.
func TestDrawnStarts(t *testing.T) {
	r := rand.New(rand.NewSource(47))
	for range 3000 {
		rows := drawRows(r)
		want := []int64{}
		for column := range 30 {
			begins := func(row string) bool {
				padded := " " + row + gap(30)
				return padded[column] == ' ' && padded[column+1] != ' '
			}
			if slices.ContainsFunc(rows, begins) {
				want = append(want, int64(column))
			}
		}
		starts, code := impl.StartsOf(rows)
		is(t, fmt.Sprintf("the starts of %q", rows), all(starts, code), want, impl.OK)
	}
}

// wayCallsArePure checks all functions that take stops, two columns and a text.
func wayCallsArePure(t *testing.T, list []int64, from, to int64, text string) {
	t.Helper()
	stops, same := watched(list)
	isPure(t, "ValidStops", func() []any { return all(impl.ValidStops(stops)) }, same)
	isCoded(t, "MovesBetween", func() []any { moves, code := impl.MovesBetween(stops, from, to); return all(moves, code) }, same)
	isCoded(t, "PlanBetween", func() []any { plan, code := impl.PlanBetween(stops, from, to); return all(plan, code) }, same)
	isCoded(t, "RowPlan", func() []any { plan, code := impl.RowPlan(stops, text); return all(plan, code) }, same)
	isCoded(t, "RunPlan", func() []any { row, code := impl.RunPlan(stops, text); return all(row, code) }, same)
	isCoded(t, "PlanMoves", func() []any { moves, code := impl.PlanMoves(text); return all(moves, code) })
}

// pageCallsArePure checks all functions that take rows.
func pageCallsArePure(t *testing.T, list []int64, texts []string, many int64) {
	t.Helper()
	stops, same := watched(list)
	rows, unchanged := watched(texts)
	isCoded(t, "PageMoves", func() []any { moves, code := impl.PageMoves(stops, rows); return all(moves, code) }, same, unchanged)
	isCoded(t, "BestStops", func() []any { best, moves, code := impl.BestStops(rows, many); return all(best, moves, code) }, unchanged)
	isCoded(t, "StartsOf", func() []any { starts, code := impl.StartsOf(rows); return all(starts, code) }, unchanged)
}

// Promise 1 for chapter 11.
func TestMovesArePure(t *testing.T) {
	plans := unreadablePlans()
	for _, c := range append(rightPlans(), brokenPlans()...) {
		plans = append(plans, c.plan)
	}
	texts := slices.Concat(rightRows(), wrongRows(), plans, oddTexts())
	for _, text := range texts {
		for _, stops := range [][]int64{nil, {10}, fullStops(), {0}, {31}, upTo(7)} {
			wayCallsArePure(t, stops, 0, 9, text)
		}
		for _, rows := range append(rowLists(text), repeated(text, 12), repeated(text, 13)) {
			pageCallsArePure(t, []int64{10}, rows, 1)
		}
	}
	numbers := append(oddNumbers(), 29, 30, 31)
	for _, stops := range append(rightStops(), wrongStops()...) {
		for _, from := range numbers {
			wayCallsArePure(t, stops, from, 9, "a  b")
			wayCallsArePure(t, stops, 12, from, "'a#'b")
			wayCallsArePure(t, []int64{10, from}, 0, from, "'a##'b")
		}
		pageCallsArePure(t, stops, []string{"a  b", "   c"}, 1)
	}
	for _, many := range numbers {
		for _, rows := range [][]string{nil, {""}, {"a"}, {"a  b", "   c"}, repeated("a     b", 12), repeated("a", 13)} {
			pageCallsArePure(t, []int64{many}, rows, many)
		}
	}
	r := rand.New(rand.NewSource(48))
	for i := range 200 {
		pageCallsArePure(t, drawStops(r, i%7), drawRows(r), int64(i%3))
		wayCallsArePure(t, drawStops(r, i%7), r.Int63n(31), r.Int63n(31), drawRow(r, 30))
	}
}
