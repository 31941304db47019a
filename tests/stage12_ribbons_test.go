package tests

import (
	"fmt"
	"slices"
	"strings"
	"testing"

	"loop.example/g01045/impl"
)

// ribbon returns a ribbon: its spots, the ink of each one, and what a stroke takes.
func ribbon(spots, ink, takes int64) impl.Ribbon {
	return impl.Ribbon{Spots: spots, Ink: ink, Takes: takes}
}

// exampleRibbon uses the spots 0, 1, 2, 1, 0, 1 and so on.
func exampleRibbon() impl.Ribbon { return ribbon(3, 10, 4) }

// fullRibbon is as long as a ribbon may be, and has the most ink.
func fullRibbon() impl.Ribbon { return ribbon(200, 1000, 1) }

// rightRibbons returns ribbons of all sorts.
func rightRibbons() []impl.Ribbon {
	return []impl.Ribbon{exampleRibbon(), fullRibbon(), ribbon(2, 1, 1), ribbon(2, 10, 3), ribbon(2, 1000, 1), ribbon(2, 1000, 1000), ribbon(200, 1, 1), ribbon(200, 1000, 1000), ribbon(200, 1000, 999), ribbon(199, 999, 500)}
}

// wrongRibbons returns ribbons that are not valid.
func wrongRibbons() []impl.Ribbon {
	list := []impl.Ribbon{{}, ribbon(1, 10, 4), ribbon(2, 0, 0), ribbon(2, 0, 1), ribbon(2, 1, 2), ribbon(3, 10, 11), ribbon(200, 999, 1000), ribbon(200, 1000, 1001), ribbon(201, 1001, 1001), ribbon(-3, -10, -4), ribbon(1<<63-1, 1<<63-1, 1<<63-1), ribbon(-1<<63, -1<<63, -1<<63)}
	for _, n := range append(wrongNumbers(200), 1) {
		list = append(list, ribbon(n, 10, 4))
	}
	for _, n := range wrongNumbers(1000) {
		list = append(list, ribbon(3, n, 1), ribbon(3, n, n), ribbon(3, 1000, n))
	}
	return list
}

// noUses returns numbers that are no strokes.
func noUses() []int64 {
	return []int64{-1, 100001, 100002, -2, -100000, 1 << 32, 1<<32 + 1, -1 << 32, -1 << 63, 1<<63 - 1}
}

// noInkTexts returns texts that cannot be typed with a ribbon.
func noInkTexts() []string {
	return []string{x(101), gap(101), x(100) + " ", " " + x(100), strings.Repeat("ab ", 34), "\x1f", "\x7f", "a\x1f", "a\x7f", "\x1fa", "\x7fb", "a \x1f b", "a\tb", "\n", "\x00", "\x80", "\xff", "é", x(99) + "\x7f", x(100) + "\x1f"}
}

func TestValidRibbon(t *testing.T) {
	is(t, "limits", all(impl.MaxSpots, impl.MaxInk, impl.MaxUses, impl.MaxRibbons), 200, 1000, 100000, 20)
	for _, r := range append(rightRibbons(), ribbon(3, 10, 1), ribbon(3, 10, 10), ribbon(3, 1, 1)) {
		is(t, fmt.Sprint("a ribbon ", r), all(impl.ValidRibbon(r)), true)
	}
	for _, r := range wrongRibbons() {
		is(t, fmt.Sprint("no ribbon ", r), all(impl.ValidRibbon(r)), false)
	}
}

func TestRibbonText(t *testing.T) {
	is(t, "the example", all(impl.RibbonText(exampleRibbon())), "3 spots of 10 less 4")
	is(t, "the least numbers", all(impl.RibbonText(ribbon(2, 1, 1))), "2 spots of 1 less 1")
	is(t, "the greatest numbers", all(impl.RibbonText(ribbon(200, 1000, 1000))), "200 spots of 1000 less 1000")
	for _, r := range wrongRibbons() {
		is(t, fmt.Sprint("no ribbon ", r), all(impl.RibbonText(r)), "")
	}
}

func TestSpotAt(t *testing.T) {
	for _, c := range []struct {
		name  string
		spots int64
		want  []int64 // of the strokes from first on
		first int64
	}{
		{"the example", 3, []int64{0, 1, 2, 1, 0, 1, 2, 1, 0, 1}, 0},
		{"a ribbon of two spots is turned at each stroke", 2, []int64{0, 1, 0, 1, 0, 1, 0}, 0},
		{"two spots, the last strokes", 2, []int64{0, 1, 0}, 99998},
		{"five spots", 5, []int64{0, 1, 2, 3, 4, 3, 2, 1, 0, 1, 2, 3, 4, 3, 2, 1, 0, 1}, 0},
		{"three spots, the last strokes", 3, []int64{1, 2, 1, 0}, 99997},
		{"the last spot of MaxSpots", 200, []int64{197, 198, 199, 198, 197}, 197},
		{"back at the first spot", 200, []int64{2, 1, 0, 1, 2}, 396},
		{"the last spot after several turns", 200, []int64{198, 199, 198}, 99698},
		{"the first spot after several turns", 200, []int64{1, 0, 1}, 99897},
		{"the last strokes", 200, []int64{101, 102}, 99999},
	} {
		for i, want := range c.want {
			stroke := c.first + int64(i)
			spot, code := impl.SpotAt(ribbon(c.spots, 10, 4), stroke)
			is(t, fmt.Sprint(c.name, ", stroke ", stroke), all(spot, code), want, impl.OK)
		}
	}
}

// numbersWith returns so many equal numbers, but for those at some indices.
func numbersWith(n int64, times int, others map[int]int64) []int64 {
	list := repeated(n, times)
	for i, other := range others {
		list[i] = other
	}
	return list
}

func TestUsesOf(t *testing.T) {
	for _, c := range []struct {
		name           string
		spots, strokes int64
		want           []int64
	}{
		{"the example", 3, 6, []int64{2, 3, 1}},
		{"0 strokes", 3, 0, []int64{0, 0, 0}},
		{"the first stroke", 3, 1, []int64{1, 0, 0}},
		{"up to the last spot", 3, 3, []int64{1, 1, 1}},
		{"there and back", 3, 5, []int64{2, 2, 1}},
		{"two spots, 0 strokes", 2, 0, []int64{0, 0}},
		{"two spots, one stroke", 2, 1, []int64{1, 0}},
		{"two spots, two strokes", 2, 2, []int64{1, 1}},
		{"two spots, three strokes", 2, 3, []int64{2, 1}},
		{"two spots, MaxUses - 1 strokes", 2, 99999, []int64{50000, 49999}},
		{"two spots, MaxUses strokes", 2, 100000, []int64{50000, 50000}},
		{"five spots, one in front of the end", 5, 4, []int64{1, 1, 1, 1, 0}},
		{"five spots, the end", 5, 5, []int64{1, 1, 1, 1, 1}},
		{"five spots, one behind the end", 5, 6, []int64{1, 1, 1, 2, 1}},
		{"five spots, one in front of the beginning", 5, 8, []int64{1, 2, 2, 2, 1}},
		{"five spots, at the beginning", 5, 9, []int64{2, 2, 2, 2, 1}},
		{"five spots, one behind the beginning", 5, 10, []int64{2, 3, 2, 2, 1}},
		{"five spots, the end again", 5, 13, []int64{2, 3, 3, 3, 2}},
		{"three spots, MaxUses strokes", 3, 100000, []int64{25000, 50000, 25000}},
		{"MaxSpots spots, 0 strokes", 200, 0, make([]int64, 200)},
		{"all but the last one of MaxSpots", 200, 199, numbersWith(1, 200, map[int]int64{199: 0})},
		{"each one of MaxSpots", 200, 200, repeated[int64](1, 200)},
		{"the first one that is used twice", 200, 201, numbersWith(1, 200, map[int]int64{198: 2})},
		{"MaxSpots there and back", 200, 398, numbersWith(2, 200, map[int]int64{0: 1, 199: 1})},
		{"MaxSpots, several turns", 200, 99898, numbersWith(502, 200, map[int]int64{0: 251, 199: 251})},
		{"MaxSpots, several turns, and the first spot", 200, 99899, numbersWith(502, 200, map[int]int64{0: 252, 199: 251})},
	} {
		uses, code := impl.UsesOf(ribbon(c.spots, 10, 4), c.strokes)
		is(t, c.name, all(uses, code), c.want, impl.OK)
	}
}

func TestShadeAt(t *testing.T) {
	for _, c := range []struct {
		name  string
		r     impl.Ribbon
		first int64
		want  []int64 // of the strokes from first on
	}{
		{"the example", exampleRibbon(), 0, []int64{10, 10, 10, 6, 6, 2, 6, 0, 2, 0, 2, 0, 0, 0, 0, 0}},
		{"just nothing is left", ribbon(3, 12, 4), 0, []int64{12, 12, 12, 8, 8, 4, 8, 0, 4, 0, 4, 0, 0, 0, 0}},
		{"one is left", ribbon(3, 13, 4), 0, []int64{13, 13, 13, 9, 9, 5, 9, 1, 5, 0, 5, 0, 1, 0, 1, 0, 0}},
		{"two spots", ribbon(2, 10, 3), 0, []int64{10, 10, 7, 7, 4, 4, 1, 1, 0, 0, 0}},
		{"the least ink", ribbon(2, 1, 1), 0, []int64{1, 1, 0, 0, 0}},
		{"all ink at once", ribbon(2, 1000, 1000), 0, []int64{1000, 1000, 0, 0}},
		{"nearly all ink at once", ribbon(2, 1000, 999), 0, []int64{1000, 1000, 1, 1, 0, 0}},
		{"the last use of two spots", ribbon(2, 1000, 1), 1996, []int64{2, 2, 1, 1, 0, 0, 0}},
		{"the last strokes of two spots", ribbon(2, 1000, 1), 99998, []int64{0, 0, 0}},
		{"the last one of MaxSpots", fullRibbon(), 197, []int64{1000, 1000, 1000, 999, 999}},
		{"the first one of MaxSpots again", fullRibbon(), 396, []int64{999, 999, 999, 998, 998}},
		{"the last one after several turns", fullRibbon(), 99698, []int64{500, 750, 499}},
		{"the first one after several turns", fullRibbon(), 99897, []int64{499, 749, 498}},
		{"the last strokes", fullRibbon(), 99999, []int64{498, 498}},
	} {
		for i, want := range c.want {
			stroke := c.first + int64(i)
			shade, code := impl.ShadeAt(c.r, stroke)
			is(t, fmt.Sprint(c.name, ", stroke ", stroke), all(shade, code), want, impl.OK)
		}
	}
}

func TestStrokesUntil(t *testing.T) {
	for _, c := range []struct {
		name        string
		r           impl.Ribbon
		least, want int64
	}{
		{"the ink of a new spot", exampleRibbon(), 10, 3},
		{"one more than the second shade", exampleRibbon(), 7, 3},
		{"the second shade exactly", exampleRibbon(), 6, 5},
		{"one less than the second shade", exampleRibbon(), 5, 5},
		{"one more than the third shade", exampleRibbon(), 3, 5},
		{"the third shade exactly", exampleRibbon(), 2, 7},
		{"a shade that would fall below 0", exampleRibbon(), 1, 7},
		{"a shade of just 0", ribbon(3, 12, 4), 1, 7},
		{"a shade of just 1", ribbon(3, 13, 4), 1, 9},
		{"two spots, all ink", ribbon(2, 10, 4), 10, 2},
		{"two spots, the second shade", ribbon(2, 10, 4), 6, 4},
		{"two spots, the third shade", ribbon(2, 10, 4), 2, 6},
		{"two spots, the least ink", ribbon(2, 1, 1), 1, 2},
		{"two spots that are used most", ribbon(2, 1000, 1), 1, 2000},
		{"four spots, used once", ribbon(4, 5, 1), 5, 4},
		{"four spots, used twice", ribbon(4, 5, 1), 4, 7},
		{"four spots, used three times", ribbon(4, 5, 1), 3, 10},
		{"MaxSpots with the least ink", ribbon(200, 1, 1), 1, 200},
		{"MaxSpots without ink after one stroke", ribbon(200, 1000, 1000), 1, 200},
		{"MaxSpots with one left after one stroke", ribbon(200, 1000, 999), 1, 399},
		{"just MaxUses", ribbon(124, 1000, 1), 188, 100000},
		{"just MaxUses, when no ink is left", ribbon(124, 813, 1), 1, 100000},
		{"less than MaxUses", ribbon(124, 1000, 1), 189, 99877},
		{"less than MaxUses on more spots", ribbon(128, 788, 1), 2, 99950},
	} {
		stroke, code := impl.StrokesUntil(c.r, c.least)
		is(t, c.name, all(stroke, code), c.want, impl.OK)
	}
	for _, c := range []struct {
		name  string
		r     impl.Ribbon
		least int64
	}{
		{"one more than MaxUses", ribbon(101, 1000, 1), 1},
		{"one more than MaxUses on more spots", ribbon(126, 1000, 1), 201},
		{"more than MaxUses", ribbon(124, 1000, 1), 187},
		{"the most strokes", fullRibbon(), 1},
	} {
		stroke, code := impl.StrokesUntil(c.r, c.least)
		is(t, c.name, all(stroke, code), 0, impl.ErrFull)
	}
}

func TestTurnsIn(t *testing.T) {
	for _, c := range []struct {
		name  string
		spots int64
		first int64
		want  []int64 // of so many strokes from first on
	}{
		{"the example", 3, 0, []int64{0, 0, 0, 1, 1, 2, 2, 3, 3, 4}},
		{"two spots", 2, 0, []int64{0, 0, 1, 2, 3, 4, 5}},
		{"two spots, the most strokes", 2, 99999, []int64{99998, 99999}},
		{"three spots, the most strokes", 3, 99999, []int64{49999, 49999}},
		{"five spots", 5, 0, []int64{0, 0, 0, 0, 0, 1, 1, 1, 1, 2, 2}},
		{"the first turn of MaxSpots", 200, 198, []int64{0, 0, 1, 1}},
		{"the second turn of MaxSpots", 200, 397, []int64{1, 1, 2, 2}},
		{"MaxSpots, 0 strokes", 200, 0, []int64{0, 0}},
		{"the last turn of MaxSpots", 200, 99898, []int64{501, 502}},
		{"MaxSpots, the most strokes", 200, 99999, []int64{502, 502}},
	} {
		for i, want := range c.want {
			strokes := c.first + int64(i)
			turns, code := impl.TurnsIn(ribbon(c.spots, 10, 4), strokes)
			is(t, fmt.Sprint(c.name, ", ", strokes, " strokes"), all(turns, code), want, impl.OK)
		}
	}
}

func TestShadesOf(t *testing.T) {
	farShades := numbersWith(498, 100, map[int]int64{97: 749, 98: 497, 99: 497})
	for _, c := range []struct {
		name string
		r    impl.Ribbon
		done int64
		text string
		want []int64
	}{
		{"the example", exampleRibbon(), 2, "a bc", []int64{10, 0, 6, 6}},
		{"no byte", exampleRibbon(), 0, "", nil},
		{"no byte after MaxUses strokes", exampleRibbon(), 100000, "", nil},
		{"a new ribbon", exampleRibbon(), 0, "abcdefgh", []int64{10, 10, 10, 6, 6, 2, 6, 0}},
		{"equal letters", exampleRibbon(), 0, "xxxx", []int64{10, 10, 10, 6}},
		{"blanks only", exampleRibbon(), 0, "   ", []int64{0, 0, 0}},
		{"blanks between letters", exampleRibbon(), 0, "a  b c   d", []int64{10, 0, 0, 10, 0, 10, 0, 0, 0, 6}},
		{"blanks in front and behind", exampleRibbon(), 2, "  ab  ", []int64{0, 0, 10, 6, 0, 0}},
		{"the least and the greatest byte", exampleRibbon(), 3, "! ~", []int64{6, 0, 6}},
		{"letters without ink", exampleRibbon(), 12, "ab c", []int64{0, 0, 0, 0}},
		{"two spots", ribbon(2, 10, 3), 1, "abcde", []int64{10, 7, 7, 4, 4}},
		{"100 blanks", exampleRibbon(), 1, gap(100), make([]int64, 100)},
		{"100 letters", ribbon(101, 5, 1), 0, x(100), repeated[int64](5, 100)},
		{"100 letters, the last one is paler", ribbon(99, 5, 1), 0, x(100), numbersWith(5, 100, map[int]int64{99: 4})},
		{"99 blanks and a letter", exampleRibbon(), 3, gap(99) + "a", numbersWith(0, 100, map[int]int64{99: 6})},
		{"after MaxUses - 1 strokes", fullRibbon(), 99999, "a b", []int64{498, 0, 498}},
		{"after MaxUses strokes", fullRibbon(), 100000, "a b", []int64{498, 0, 498}},
		{"100 letters after MaxUses strokes, over the end of the ribbon", fullRibbon(), 100000, x(100), farShades},
		{"no ink after MaxUses strokes", ribbon(2, 1000, 1), 100000, x(100), make([]int64, 100)},
	} {
		shades, code := impl.ShadesOf(c.r, c.done, c.text)
		is(t, c.name, all(shades, code), c.want, impl.OK)
	}
}

func TestPalestLetter(t *testing.T) {
	for _, c := range []struct {
		name        string
		r           impl.Ribbon
		done        int64
		text        string
		least, want int64
	}{
		{"the given text", exampleRibbon(), 2, "a bc", 7, 2},
		{"the first one, although a later one is paler", exampleRibbon(), 0, "abcdef", 7, 3},
		{"one that is least exactly is not paler", exampleRibbon(), 0, "abcdef", 6, 5},
		{"all ink is needed", exampleRibbon(), 0, "abcdef", 10, 3},
		{"a letter without ink", exampleRibbon(), 5, "abc", 1, 2},
		{"the first byte", exampleRibbon(), 3, "a", 7, 0},
		{"blanks in front are not pale", exampleRibbon(), 3, "  a", 7, 2},
		{"blanks between are not pale", exampleRibbon(), 0, "a b c d", 10, 6},
		{"the last one of 100", ribbon(99, 5, 1), 0, x(100), 5, 99},
		{"behind 99 blanks", exampleRibbon(), 3, gap(99) + "~", 10, 99},
		{"after MaxUses strokes", fullRibbon(), 100000, x(100), 498, 98},
		{"after MaxUses strokes, the first byte", fullRibbon(), 100000, " a", 499, 1},
	} {
		index, code := impl.PalestLetter(c.r, c.done, c.text, c.least)
		is(t, c.name, all(index, code), c.want, impl.OK)
	}
	for _, c := range []struct {
		name  string
		r     impl.Ribbon
		done  int64
		text  string
		least int64
	}{
		{"the given text", exampleRibbon(), 2, "a bc", 6},
		{"no byte", exampleRibbon(), 100000, "", 10},
		{"blanks only", exampleRibbon(), 100000, "   ", 10},
		{"100 blanks", exampleRibbon(), 12, gap(100), 1},
		{"a shade that is least exactly", exampleRibbon(), 0, "abcdef", 2},
		{"a shade of 1", ribbon(3, 13, 4), 7, "a", 1},
		{"a new ribbon", exampleRibbon(), 0, "abc", 10},
		{"100 dark letters", ribbon(100, 1000, 1), 0, x(100), 1000},
		{"100 letters after MaxUses strokes", fullRibbon(), 100000, x(100), 497},
	} {
		index, code := impl.PalestLetter(c.r, c.done, c.text, c.least)
		is(t, c.name, all(index, code), 0, impl.ErrNotFound)
	}
}

func TestRibbonsFor(t *testing.T) {
	for _, c := range []struct {
		name                 string
		r                    impl.Ribbon
		strokes, least, want int64
	}{
		{"the given strokes", exampleRibbon(), 11, 6, 3},
		{"0 strokes", exampleRibbon(), 0, 6, 0},
		{"one stroke", exampleRibbon(), 1, 6, 1},
		{"strokes that fill one ribbon exactly", exampleRibbon(), 5, 6, 1},
		{"one more", exampleRibbon(), 6, 6, 2},
		{"strokes that fill two ribbons exactly", exampleRibbon(), 10, 6, 2},
		{"all ink is needed", exampleRibbon(), 7, 10, 3},
		{"the least ink is needed", exampleRibbon(), 8, 1, 2},
		{"MaxUses strokes that fill their ribbons exactly", exampleRibbon(), 100000, 6, 20000},
		{"one stroke less", exampleRibbon(), 99999, 6, 20000},
		{"five strokes less", exampleRibbon(), 99995, 6, 19999},
		{"the most ribbons", ribbon(2, 1, 1), 100000, 1, 50000},
		{"two spots, one more", ribbon(2, 1, 1), 3, 1, 2},
		{"just MaxUses strokes in each ribbon", ribbon(124, 1000, 1), 100000, 188, 1},
		{"less than MaxUses strokes in each ribbon", ribbon(124, 1000, 1), 99877, 189, 1},
		{"one more than this", ribbon(124, 1000, 1), 99878, 189, 2},
		{"MaxUses + 1 strokes in each ribbon", ribbon(101, 1000, 1), 100000, 1, 1},
		{"more than MaxUses strokes in each ribbon", fullRibbon(), 100000, 1, 1},
		{"more than MaxUses strokes in each ribbon, of which one is needed", fullRibbon(), 1, 1, 1},
		{"more than MaxUses strokes in each ribbon, and 0 strokes", fullRibbon(), 0, 1, 0},
		{"0 strokes for two spots", ribbon(2, 1, 1), 0, 1, 0},
	} {
		many, code := impl.RibbonsFor(c.r, c.strokes, c.least)
		is(t, c.name, all(many, code), c.want, impl.OK)
	}
}

// shopRibbons are the example, one with more spots, and one with less ink.
func shopRibbons() []impl.Ribbon {
	return []impl.Ribbon{exampleRibbon(), ribbon(10, 10, 4), ribbon(10, 5, 1)}
}

func TestBestRibbon(t *testing.T) {
	twice := []impl.Ribbon{exampleRibbon(), exampleRibbon()}
	for _, c := range []struct {
		name                       string
		list                       []impl.Ribbon
		prices                     []int64
		strokes, least, want, cost int64
	}{
		{"the given ribbons", shopRibbons(), []int64{10, 25, 1}, 11, 6, 1, 25},
		{"just enough ink", shopRibbons(), []int64{10, 25, 1}, 11, 5, 2, 2},
		{"one ribbon", twice[:1], []int64{10}, 11, 6, 0, 30},
		{"several that cost the same", twice, []int64{10, 10}, 11, 6, 0, 30},
		{"different ones that cost the same", shopRibbons(), []int64{10, 30, 0}, 11, 6, 0, 30},
		{"the later one costs one less", shopRibbons(), []int64{10, 29, 0}, 11, 6, 1, 29},
		{"the later one costs one more", shopRibbons(), []int64{10, 31, 0}, 11, 6, 0, 30},
		{"the later one of two is cheaper", twice, []int64{11, 10}, 11, 6, 1, 30},
		{"the cheapest one is in the middle", slices.Repeat(twice, 2)[:3], []int64{11, 10, 12}, 11, 6, 1, 30},
		{"the last one alone has enough ink", []impl.Ribbon{ribbon(10, 5, 1), ribbon(10, 5, 1), exampleRibbon()}, []int64{0, 0, 100}, 11, 6, 2, 300},
		{"0 strokes cost nothing", shopRibbons(), []int64{10, 25, 1}, 0, 6, 0, 0},
		{"0 strokes, and the first ones have too little ink", []impl.Ribbon{ribbon(2, 5, 1), exampleRibbon(), exampleRibbon()}, []int64{1, 2, 1}, 0, 6, 1, 0},
		{"a price of 0", shopRibbons(), []int64{10, 0, 0}, 100000, 6, 1, 0},
		{"all prices are 0", shopRibbons(), []int64{0, 0, 0}, 11, 5, 0, 0},
		{"the greatest cost", []impl.Ribbon{ribbon(2, 1, 1)}, []int64{100000}, 100000, 1, 0, 5000000000},
		{"the greatest prices", twice, []int64{100000, 99999}, 5, 6, 1, 99999},
		{"MaxInk is needed", []impl.Ribbon{ribbon(200, 999, 1), fullRibbon()}, []int64{1, 10}, 200, 1000, 1, 10},
		{"more than MaxUses strokes in one ribbon", []impl.Ribbon{exampleRibbon(), fullRibbon()}, []int64{1, 100}, 100000, 1, 1, 100},
		{"just MaxUses strokes in one ribbon", []impl.Ribbon{fullRibbon(), ribbon(124, 1000, 1)}, []int64{11, 10}, 100000, 188, 1, 10},
		{"MaxRibbons ribbons that cost the same", repeated(exampleRibbon(), 20), repeated[int64](3, 20), 11, 6, 0, 9},
		{"the last one of MaxRibbons", repeated(exampleRibbon(), 20), numbersWith(3, 20, map[int]int64{19: 2}), 11, 6, 19, 6},
	} {
		index, cost, code := impl.BestRibbon(c.list, c.prices, c.strokes, c.least)
		is(t, c.name, all(index, cost, code), c.want, c.cost, impl.OK)
	}
}

func TestNoBestRibbon(t *testing.T) {
	for _, c := range []struct {
		name           string
		list           []impl.Ribbon
		prices         []int64
		strokes, least int64
	}{
		{"no ribbons", nil, nil, 11, 6},
		{"no ribbons, and 0 strokes", []impl.Ribbon{}, []int64{}, 0, 1},
		{"only ones with less ink", shopRibbons(), []int64{10, 25, 1}, 11, 11},
		{"only ones with one less", []impl.Ribbon{ribbon(200, 999, 1)}, []int64{0}, 0, 1000},
		{"MaxRibbons with less ink", repeated(exampleRibbon(), 20), make([]int64, 20), 100000, 1000},
	} {
		index, cost, code := impl.BestRibbon(c.list, c.prices, c.strokes, c.least)
		is(t, c.name, all(index, cost, code), 0, 0, impl.ErrNotFound)
	}
}

// wrongOffers are ribbons with prices that do not fit to them, or of which there are too many.
type wrongOffers struct {
	name   string
	list   []impl.Ribbon
	prices []int64
}

// rangeOffers returns ribbons and prices of which not all are as told.
func rangeOffers() []wrongOffers {
	offers := []wrongOffers{
		{"one more than MaxRibbons", repeated(exampleRibbon(), 21), make([]int64, 21)},
		{"one more than MaxRibbons, with MaxRibbons prices", repeated(exampleRibbon(), 21), make([]int64, 20)},
		{"many ribbons", repeated(exampleRibbon(), 1000), make([]int64, 1000)},
		{"no prices", shopRibbons(), nil},
		{"fewer prices than ribbons", shopRibbons(), []int64{10, 25}},
		{"more prices than ribbons", shopRibbons(), []int64{10, 25, 1, 1}},
		{"a price without a ribbon", nil, []int64{0}},
		{"MaxRibbons ribbons, and one price more", repeated(exampleRibbon(), 20), make([]int64, 21)},
		{"MaxRibbons ribbons, and one price less", repeated(exampleRibbon(), 20), make([]int64, 19)},
	}
	for _, price := range []int64{-1, 100001, 100002, -100000, 1 << 32, 1<<32 + 1, -1 << 63, 1<<63 - 1} {
		for at := range 3 {
			prices := numbersWith(10, 3, map[int]int64{at: price})
			offers = append(offers, wrongOffers{fmt.Sprint("prices ", prices), shopRibbons(), prices})
		}
	}
	return offers
}

// bestReturns checks what BestRibbon returns if there is no result.
func bestReturns(t *testing.T, list []impl.Ribbon, prices []int64, strokes, least, want int64) {
	t.Helper()
	index, cost, code := impl.BestRibbon(list, prices, strokes, least)
	name := fmt.Sprintf("BestRibbon of %.80s for %d and %d", fmt.Sprint(list, prices), strokes, least)
	is(t, name, all(index, cost, code), 0, 0, want)
}

func TestWrongOffers(t *testing.T) {
	for _, c := range rangeOffers() {
		// ErrRange comes before ErrNotFound, also where all ribbons have less ink.
		for _, least := range []int64{1, 6, 11, 1000} {
			bestReturns(t, c.list, c.prices, 11, least, impl.ErrRange)
		}
		bestReturns(t, c.list, c.prices, -1, 0, impl.ErrRange)
		for _, r := range wrongRibbons() {
			bestReturns(t, append(slices.Clone(c.list), r), c.prices, 11, 6, impl.ErrInvalid)
			bestReturns(t, append([]impl.Ribbon{r}, c.list...), c.prices, -1, 0, impl.ErrInvalid)
		}
	}
	for _, strokes := range noUses() {
		bestReturns(t, shopRibbons(), []int64{10, 25, 1}, strokes, 6, impl.ErrRange)
		bestReturns(t, shopRibbons(), []int64{10, 25, 1}, strokes, 11, impl.ErrRange)
		bestReturns(t, nil, nil, strokes, 6, impl.ErrRange)
	}
	for _, least := range wrongNumbers(1000) {
		bestReturns(t, shopRibbons(), []int64{10, 25, 1}, 11, least, impl.ErrRange)
		bestReturns(t, nil, nil, 11, least, impl.ErrRange)
	}
	for _, r := range wrongRibbons() {
		for at := range 3 {
			list := shopRibbons()
			list[at] = r
			bestReturns(t, list, []int64{10, 25, 1}, 11, 6, impl.ErrInvalid)
			bestReturns(t, list, []int64{10, 25, 1}, 11, 11, impl.ErrInvalid)
		}
	}
}

// usesReturn checks what the functions on a ribbon and strokes return if there is no result.
func usesReturn(t *testing.T, r impl.Ribbon, n, want int64) {
	t.Helper()
	name := fmt.Sprintf(" for %v and %d", r, n)
	spot, code := impl.SpotAt(r, n)
	is(t, "SpotAt"+name, all(spot, code), 0, want)
	uses, code := impl.UsesOf(r, n)
	is(t, "UsesOf"+name, all(uses, code), []int64{}, want)
	shade, code := impl.ShadeAt(r, n)
	is(t, "ShadeAt"+name, all(shade, code), 0, want)
	turns, code := impl.TurnsIn(r, n)
	is(t, "TurnsIn"+name, all(turns, code), 0, want)
}

// inkingReturns checks what the functions on a ribbon, strokes, a text and a shade return if there is no result.
func inkingReturns(t *testing.T, r impl.Ribbon, n int64, text string, least, want int64) {
	t.Helper()
	name := fmt.Sprintf(" for %v, %d, %.30q and %d", r, n, text, least)
	shades, code := impl.ShadesOf(r, n, text)
	is(t, "ShadesOf"+name, all(shades, code), []int64{}, want)
	index, code := impl.PalestLetter(r, n, text, least)
	is(t, "PalestLetter"+name, all(index, code), 0, want)
}

// leastReturns checks what the functions on a ribbon and a shade return if there is no result.
func leastReturns(t *testing.T, r impl.Ribbon, strokes, least, want int64) {
	t.Helper()
	name := fmt.Sprintf(" for %v, %d and %d", r, strokes, least)
	stroke, code := impl.StrokesUntil(r, least)
	is(t, "StrokesUntil"+name, all(stroke, code), 0, want)
	many, code := impl.RibbonsFor(r, strokes, least)
	is(t, "RibbonsFor"+name, all(many, code), 0, want)
}

func TestStrokesOutOfRange(t *testing.T) {
	for _, r := range rightRibbons() {
		for _, n := range noUses() {
			usesReturn(t, r, n, impl.ErrRange)
			inkingReturns(t, r, n, "a bc", 1, impl.ErrRange)
			inkingReturns(t, r, n, "", 1, impl.ErrRange)
			inkingReturns(t, r, n, "\x1f", 0, impl.ErrRange)
			many, code := impl.RibbonsFor(r, n, 1)
			is(t, fmt.Sprint("RibbonsFor ", r, n), all(many, code), 0, impl.ErrRange)
		}
		for _, text := range noInkTexts() {
			inkingReturns(t, r, 0, text, 1, impl.ErrRange)
			inkingReturns(t, r, 100000, text, r.Ink, impl.ErrRange)
		}
		for _, least := range wrongNumbers(r.Ink) {
			leastReturns(t, r, 11, least, impl.ErrRange)
			leastReturns(t, r, 0, least, impl.ErrRange)
			// No letter can be found, too, but this is checked later.
			for _, text := range []string{"a bc", "", " "} {
				index, code := impl.PalestLetter(r, 0, text, least)
				is(t, fmt.Sprint("PalestLetter ", r, least), all(index, code), 0, impl.ErrRange)
			}
		}
	}
}

func TestNoRibbons(t *testing.T) {
	for _, r := range wrongRibbons() {
		for _, n := range append(noUses(), 0, 1, 100000) {
			usesReturn(t, r, n, impl.ErrInvalid)
			inkingReturns(t, r, n, "a bc", 1, impl.ErrInvalid)
			leastReturns(t, r, n, 1, impl.ErrInvalid)
		}
		for _, text := range append(noInkTexts(), "") {
			inkingReturns(t, r, 0, text, 0, impl.ErrInvalid)
		}
		for _, least := range append(wrongNumbers(r.Ink), 1, r.Ink) {
			leastReturns(t, r, 11, least, impl.ErrInvalid)
			inkingReturns(t, r, -1, "\x7f", least, impl.ErrInvalid)
		}
	}
}

func TestColourRuns(t *testing.T) {
	for _, c := range []struct {
		name, colours string
		want          int64
	}{
		{"the given colours", "bb rr b", 2},
		{"no byte", "", 0},
		{"black only", "b", 0},
		{"red only", "r", 1},
		{"it begins with red", "rrb", 2},
		{"red behind black", "br", 1},
		{"by turns, from red on", "rbrb", 4},
		{"by turns, from black on", "brbr", 3},
		{"a blank", " ", 0},
		{"blanks only", "     ", 0},
		{"blanks in front of red", "   r", 1},
		{"blanks in front of black", "   b", 0},
		{"blanks behind red", "r   ", 1},
		{"blanks between equal colours", "r  r b b", 2},
		{"blanks between different colours", "r b  r", 3},
		{"1000 blanks", gap(1000), 0},
		{"1000 black bytes", strings.Repeat("b", 1000), 0},
		{"1000 red bytes", strings.Repeat("r", 1000), 1},
		{"1000 bytes by turns, from red on", strings.Repeat("rb", 500), 1000},
		{"1000 bytes by turns, from black on", strings.Repeat("br", 500), 999},
		{"the last one of 1000 bytes", gap(999) + "r", 1},
	} {
		changes, code := impl.ColourRuns(c.colours)
		is(t, c.name, all(changes, code), c.want, impl.OK)
	}
}

func TestWrongColours(t *testing.T) {
	for _, colours := range []string{gap(1001), strings.Repeat("b", 1001), strings.Repeat("r", 1001), strings.Repeat("br ", 334), strings.Repeat("rb", 100000)} {
		changes, code := impl.ColourRuns(colours)
		is(t, "too many colours", all(changes, code), 0, impl.ErrRange)
	}
	for b := range 256 {
		text := string([]byte{byte(b)})
		if strings.Contains("br ", text) {
			continue
		}
		for _, colours := range []string{text, text + "b", "b" + text, "rb" + text + "br", " " + text + " ", text + text, strings.Repeat("b", 999) + text, strings.Repeat("b", 1000) + text, gap(1000) + text, strings.Repeat("r", 5000) + text + "b", text + gap(2000)} {
			changes, code := impl.ColourRuns(colours)
			is(t, fmt.Sprintf("the byte %d", b), all(changes, code), 0, impl.ErrSyntax)
		}
	}
	for _, colours := range []string{"é", "日本", "B", "R", "b\u00a0r", "br\n", "bg"} {
		changes, code := impl.ColourRuns(colours)
		is(t, colours, all(changes, code), 0, impl.ErrSyntax)
	}
}
