package tests

import (
	"slices"
	"strings"
	"testing"

	"loop.example/g01045/impl"
)

// smallCarriage has a left margin of 10 and is as narrow as a carriage can be.
func smallCarriage() impl.Carriage { return impl.Carriage{Left: 10, Right: 30, Bell: 24} }

// wrongCarriages returns carriages that are not valid, each for one reason.
func wrongCarriages() []impl.Carriage {
	return []impl.Carriage{{}, {Left: -1, Right: 30, Bell: 24}, {Left: 10, Right: 301, Bell: 24}, {Left: 11, Right: 30, Bell: 24},
		{Left: 30, Right: 10, Bell: 24}, {Left: 300, Right: 300, Bell: 300}, {Left: 10, Right: 30, Bell: 9}, {Left: 10, Right: 30, Bell: 31},
		{Left: 10, Right: 30, Bell: -24}, {Left: 5, Right: -1 << 63, Bell: 5}, {Left: -1 << 63, Right: 1<<63 - 1}}
}

// acts makes acts of a text in which blanks, <, +, [ and ] are the kinds without a letter, and other bytes letters.
func acts(text string) []impl.Act {
	kinds := map[rune]int64{' ': impl.ActSpace, '<': impl.ActBack, '+': impl.ActHalf, '[': impl.ActFree, ']': impl.ActReturn}
	var list []impl.Act
	for _, r := range text {
		if kind, ok := kinds[r]; ok {
			list = append(list, impl.Act{Kind: kind})
		} else {
			list = append(list, impl.Act{Letter: string(r)})
		}
	}
	return list
}

// wrongActs returns lists that are no valid acts.
func wrongActs() [][]impl.Act {
	return [][]impl.Act{{{}}, {{Letter: "ab"}}, {{Letter: " "}}, {{Letter: "\x7f"}}, {{Letter: "é"}}, {{Kind: 1, Letter: "a"}}, {{Kind: 1, Letter: " "}},
		{{Kind: 2, Letter: "a"}}, {{Kind: 3, Letter: "a"}}, {{Kind: 4, Letter: "a"}}, {{Kind: 5, Letter: "a"}}, {{Kind: -1}}, {{Kind: -1, Letter: "a"}}, {{Kind: 6}},
		{{Letter: "a"}, {Kind: 1}, {Kind: 6}}, {{Kind: 6}, {Letter: "a"}}, acts(strings.Repeat("a<", 100) + "]")}
}

// struck makes what stands on a line: the bytes of letters at these places.
func struck(letters string, places ...int64) []impl.Struck {
	var list []impl.Struck
	for i, p := range places {
		list = append(list, impl.Struck{Place: p, Letter: letters[i : i+1]})
	}
	return list
}

// wrongStruck returns lists that stand on no line.
func wrongStruck() [][]impl.Struck {
	return [][]impl.Struck{{{}}, {{Place: 10, Letter: ""}}, {{Place: 10, Letter: "ab"}}, {{Place: 10, Letter: " "}}, {{Place: 10, Letter: "\x7f"}},
		struck("a", -1), struck("a", 301), struck("ab", 10, 301), struck("ab", -1, 10), struck("aa", 11, -1), make([]impl.Struck, 1),
		struck(strings.Repeat("a", 201), make([]int64, 201)...)}
}

func TestValidCarriage(t *testing.T) {
	if impl.MaxHalf != 300 || impl.MaxActs != 200 || impl.LeastRun != 20 {
		t.Error(impl.MaxHalf, impl.MaxActs, impl.LeastRun)
	}
	is(t, "kinds", all(impl.ActType, impl.ActSpace, impl.ActBack, impl.ActHalf, impl.ActFree, impl.ActReturn), 0, 1, 2, 3, 4, 5)
	for _, c := range []impl.Carriage{smallCarriage(), {Right: 20}, {Right: 300, Bell: 300}, {Left: 280, Right: 300, Bell: 280},
		{Left: 280, Right: 300, Bell: 300}, {Left: 10, Right: 30, Bell: 10}, {Left: 10, Right: 30, Bell: 30}, {Left: 1, Right: 300, Bell: 150}} {
		if !impl.ValidCarriage(c) {
			t.Errorf("%+v is valid", c)
		}
	}
	for _, c := range wrongCarriages() {
		if impl.ValidCarriage(c) {
			t.Errorf("%+v is not valid", c)
		}
	}
}

func TestValidActs(t *testing.T) {
	for _, list := range [][]impl.Act{nil, {}, acts("a"), acts("!"), acts("~"), acts(" <+[]"), acts("'a"), acts(strings.Repeat("a<", 100))} {
		if !impl.ValidActs(list) {
			t.Errorf("%v are acts", list)
		}
	}
	for _, list := range wrongActs() {
		if impl.ValidActs(list) {
			t.Errorf("%v are no acts", list)
		}
	}
}

func TestSameStruck(t *testing.T) {
	for _, c := range []struct {
		a, b []impl.Struck
		want bool
	}{{nil, nil, true}, {nil, struck(""), true}, {struck("ab", 1, 2), struck("ab", 1, 2), true}, {wrongStruck()[0], wrongStruck()[0], true},
		{struck("a", -5), struck("a", -5), true}, {nil, struck("a", 1), false}, {struck("ab", 1, 2), struck("a", 1), false}, {struck("ab", 1, 2), struck("ba", 2, 1), false},
		{struck("a", 1), struck("a", 2), false}, {struck("a", 1), struck("b", 1), false}, {struck("ab", 1, 2), struck("ac", 1, 2), false}} {
		if impl.SameStruck(c.a, c.b) != c.want || impl.SameStruck(c.b, c.a) != c.want {
			t.Error(c)
		}
	}
}

func TestTypedActs(t *testing.T) {
	wide := impl.Carriage{Left: 3, Right: 299, Bell: 20}
	ten, eighty := strings.Repeat("a", 10), strings.Repeat(" ", 80)
	edge := impl.Carriage{Left: 280, Right: 300, Bell: 300}
	for _, c := range []struct {
		name                string
		carriage            impl.Carriage
		acts                string
		list                []impl.Struck
		place, bells, stops int64 // stops is -1 if no act is stopped
	}{
		{"no acts", smallCarriage(), "", nil, 10, 0, -1},
		{"a letter", smallCarriage(), "a", struck("a", 10), 12, 0, -1},
		{"all kinds", smallCarriage(), "a b<+c[d]e", struck("abcde", 10, 14, 15, 17, 10), 12, 0, -1},
		{"just up to Right", smallCarriage(), "         a", struck("a", 28), 30, 1, -1},
		{"a half beyond Right", smallCarriage(), "         +a", nil, 0, 1, 10},
		{"a half just up to Right", smallCarriage(), "         ++", nil, 30, 1, -1},
		{"a half from Right", smallCarriage(), "          +", nil, 0, 1, 10},
		{"a blank from Right", smallCarriage(), "           ", nil, 0, 1, 10},
		{"a blank a half beyond Right", smallCarriage(), "+          ", nil, 0, 1, 10},
		{"nothing behind a stopped act", smallCarriage(), ten + "b]cdefghijk", nil, 0, 1, 10},
		{"an act stopped at the first place", impl.Carriage{Right: 20}, ten + "a", nil, 0, 0, 10},
		{"back from Right", smallCarriage(), "          <a", struck("a", 28), 30, 1, -1},
		{"a blank with the margin away", smallCarriage(), "          [ ", nil, 32, 1, -1},
		{"a half with the margin away", smallCarriage(), "          [+", nil, 31, 1, -1},
		{"the margin away before it is reached", smallCarriage(), "[           a", struck("a", 32), 34, 1, -1},
		{"the margin away twice", smallCarriage(), "[[           ", nil, 32, 1, -1},
		{"the margin again there", smallCarriage(), "[           ]a", struck("a", 10), 12, 1, -1},
		{"the margin again there, and reached", smallCarriage(), "[           ]           ", nil, 0, 2, 23},
		{"the margin again away", smallCarriage(), "[]           [", nil, 0, 1, 12},
		{"just up to MaxHalf", impl.Carriage{Right: 20, Bell: 1}, "[" + eighty + eighty[:69] + "a", struck("a", 298), 300, 1, -1},
		{"beyond MaxHalf", impl.Carriage{Right: 20, Bell: 1}, "[" + eighty + eighty[:69] + "a+", nil, 0, 1, 151},
		{"a half just up to MaxHalf", impl.Carriage{Right: 20, Bell: 1}, "[" + eighty + eighty[:69] + "++", nil, 300, 1, -1},
		{"a letter beyond MaxHalf by one", impl.Carriage{Right: 20, Bell: 1}, "[" + eighty + eighty[:69] + "+a", nil, 0, 1, 151},
		{"Right is MaxHalf", edge, "          ", nil, 300, 1, -1},
		{"beyond Right and MaxHalf", edge, "[           ", nil, 0, 1, 11},
		{"back to 0", impl.Carriage{Right: 20}, " <a", struck("a", 0), 2, 0, -1},
		{"back at 0", impl.Carriage{Right: 20}, "<a<<<b", struck("ab", 0, 0), 2, 0, -1},
		{"back at 1", impl.Carriage{Left: 1, Right: 21, Bell: 21}, "<a", struck("a", 0), 2, 0, -1},
		{"back at 2", impl.Carriage{Left: 2, Right: 22, Bell: 22}, "<a", struck("a", 0), 2, 0, -1},
		{"back at 3", impl.Carriage{Left: 3, Right: 23, Bell: 23}, "<a", struck("a", 1), 3, 0, -1},
		{"before Left", smallCarriage(), "<<a", struck("a", 6), 8, 0, -1},
		{"to Left from before it", smallCarriage(), "<<<<]a", struck("a", 10), 12, 0, -1},
		{"one less than Bell", impl.Carriage{Right: 20, Bell: 7}, "   ", nil, 6, 0, -1},
		{"to Bell", impl.Carriage{Right: 20, Bell: 6}, "   ", nil, 6, 1, -1},
		{"over Bell", impl.Carriage{Right: 20, Bell: 5}, "   ", nil, 6, 1, -1},
		{"to Bell by a half", impl.Carriage{Right: 20, Bell: 5}, "  +", nil, 5, 1, -1},
		{"to Bell by a letter", impl.Carriage{Right: 20, Bell: 6}, "abc", struck("abc", 0, 2, 4), 6, 1, -1},
		{"from Bell", impl.Carriage{Right: 20, Bell: 6}, "      ", nil, 12, 1, -1},
		{"Bell is Left", impl.Carriage{Left: 10, Right: 30, Bell: 10}, "abc", struck("abc", 10, 12, 14), 16, 0, -1},
		{"Bell is Left, from before it", impl.Carriage{Left: 10, Right: 30, Bell: 10}, "<a<+ ", struck("a", 8), 11, 2, -1},
		{"no bell for a return", impl.Carriage{Left: 10, Right: 30, Bell: 10}, "<]<]", nil, 10, 0, -1},
		{"Bell is Right", impl.Carriage{Right: 20, Bell: 20}, ten, struck(ten, 0, 2, 4, 6, 8, 10, 12, 14, 16, 18), 20, 1, -1},
		{"a stopped act rings no bell", impl.Carriage{Right: 21, Bell: 21}, "           ", nil, 0, 0, 10},
		{"back and again over Bell", impl.Carriage{Right: 20, Bell: 4}, "  < < ]  ", nil, 4, 4, -1},
		{"odd places", wide, "a+b", struck("ab", 3, 6), 8, 0, -1},
	} {
		carriage, list := c.carriage, acts(c.acts)
		var typed []impl.Struck
		place, code := c.place, int64(impl.OK)
		stops, locked := int64(0), int64(impl.ErrNotFound)
		if typed = c.list; c.stops >= 0 {
			typed, place, code, stops, locked = nil, 0, impl.ErrState, c.stops, impl.OK
		}
		gotList, gotPlace, gotCode := impl.TypeActs(carriage, list)
		is(t, "TypeActs, "+c.name, all(gotList, gotPlace, gotCode), typed, place, code)
		bells, gotCode := impl.BellsOf(carriage, list)
		is(t, "BellsOf, "+c.name, all(bells, gotCode), c.bells, impl.OK)
		at, gotCode := impl.LockedAt(carriage, list)
		is(t, "LockedAt, "+c.name, all(at, gotCode), stops, locked)
	}
	for _, c := range wrongCarriages() {
		actsAreRefused(t, c, nil)
		actsAreRefused(t, c, acts("abcdefghijkl"))
	}
	for _, list := range wrongActs() {
		actsAreRefused(t, smallCarriage(), list)
		actsAreRefused(t, smallCarriage(), append(acts("abcdefghijkl"), list...))
		actsAreRefused(t, impl.Carriage{}, list)
	}
}

func actsAreRefused(t *testing.T, c impl.Carriage, acts []impl.Act) {
	t.Helper()
	list, place, code := impl.TypeActs(c, acts)
	is(t, "TypeActs", all(list, place, code), []int{}, 0, impl.ErrInvalid)
	bells, code := impl.BellsOf(c, acts)
	is(t, "BellsOf", all(bells, code), 0, impl.ErrInvalid)
	at, code := impl.LockedAt(c, acts)
	is(t, "LockedAt", all(at, code), 0, impl.ErrInvalid)
}

func TestTwoHundredActs(t *testing.T) {
	list := acts(strings.Repeat("a<", 100))
	typed, place, code := impl.TypeActs(smallCarriage(), list)
	if code != impl.OK || place != 10 || len(typed) != 100 || typed[99] != (impl.Struck{Place: 10, Letter: "a"}) {
		t.Error(typed, place, code)
	}
	list = append(acts(strings.Repeat("]", 190)), acts("          +")...)
	if at, code := impl.LockedAt(smallCarriage(), list[:200]); at != 0 || code != impl.ErrNotFound {
		t.Error(at, code)
	}
	if at, code := impl.LockedAt(smallCarriage(), list[1:]); at != 199 || code != impl.OK {
		t.Error(at, code)
	}
}

func TestOvertypedPlaces(t *testing.T) {
	for _, c := range []struct {
		list   []impl.Struck
		places []int64
	}{{nil, nil}, {struck("a", 3), nil}, {struck("aaa", 0, 1, 300), nil}, {struck("aa", 0, 0), []int64{0}}, {struck("ab", 300, 300), []int64{300}},
		{struck("abcdefg", 9, 300, 4, 300, 9, 5, 9), []int64{9, 300}}, {struck("abcd", 7, 6, 6, 7), []int64{6, 7}},
		{struck(strings.Repeat("a", 200), make([]int64, 200)...), []int64{0}}} {
		places, code := impl.OvertypedPlaces(c.list)
		is(t, "OvertypedPlaces", all(places, code), c.places, impl.OK)
	}
	for _, list := range wrongStruck() {
		places, code := impl.OvertypedPlaces(list)
		is(t, "no line", all(places, code), []int64{}, impl.ErrInvalid)
	}
}

func TestLineOf(t *testing.T) {
	for _, c := range []struct {
		name string
		list []impl.Struck
		line string
		code int64
		half bool
	}{
		{"nothing", nil, "", impl.OK, false},
		{"at Left", struck("a", 10), "a", impl.OK, false},
		{"with blanks", struck("ab", 14, 20), "  a  b", impl.OK, false},
		{"from behind", struck("cba", 16, 12, 10), "ab c", impl.OK, false},
		{"beyond Right", struck("a", 32), strings.Repeat(" ", 11) + "a", impl.OK, false},
		{"at MaxHalf", struck("a!~", 300, 10, 298), "!" + strings.Repeat(" ", 143) + "~a", impl.OK, false},
		{"one behind Left", struck("a", 11), "", impl.ErrFormat, true},
		{"one before Left", struck("a", 9), "", impl.ErrFormat, true},
		{"two before Left", struck("a", 8), "", impl.ErrFormat, false},
		{"at 0", struck("a", 0), "", impl.ErrFormat, false},
		{"odd behind others", struck("abc", 10, 12, 15), "", impl.ErrFormat, true},
		{"two letters at a place", struck("abc", 10, 12, 10), "", impl.ErrClash, false},
		{"a letter twice at a place", struck("aa", 20, 20), "", impl.ErrClash, false},
		{"first two at a place, then odd", struck("aba", 10, 10, 13), "", impl.ErrClash, true},
		{"first odd, then two at a place", struck("aba", 13, 10, 10), "", impl.ErrFormat, true},
		{"two at an odd place", struck("ab", 13, 13), "", impl.ErrFormat, true},
		{"two before Left", struck("ab", 8, 8), "", impl.ErrFormat, false},
	} {
		line, code := impl.LineOf(smallCarriage(), c.list)
		is(t, "LineOf, "+c.name, all(line, code), c.line, c.code)
		half, code := impl.HalfShifted(smallCarriage(), c.list)
		is(t, "HalfShifted, "+c.name, all(half, code), c.half, impl.OK)
	}
	odd := impl.Carriage{Left: 11, Right: 40, Bell: 12}
	line, code := impl.LineOf(odd, struck("ab", 13, 15))
	is(t, "an odd Left", all(line, code), " ab", impl.OK)
	half, code := impl.HalfShifted(odd, struck("abc", 1, 13, 299))
	is(t, "an odd Left", all(half, code), false, impl.OK)
	half, code = impl.HalfShifted(odd, struck("abc", 1, 13, 300))
	is(t, "an odd Left", all(half, code), true, impl.OK)
	lineIsRefused := func(c impl.Carriage, list []impl.Struck) {
		line, code := impl.LineOf(c, list)
		is(t, "LineOf", all(line, code), "", impl.ErrInvalid)
		half, code := impl.HalfShifted(c, list)
		is(t, "HalfShifted", all(half, code), false, impl.ErrInvalid)
	}
	for _, c := range wrongCarriages() {
		lineIsRefused(c, nil)
		lineIsRefused(c, struck("aa", 11, 11))
	}
	for _, list := range wrongStruck() {
		lineIsRefused(smallCarriage(), list)
		lineIsRefused(smallCarriage(), append(struck("aa", 11, 11), list...))
	}
}

func TestActsForLine(t *testing.T) {
	blanks := strings.Repeat(" ", 301)
	long := strings.Repeat("a", 150)
	widest := impl.Carriage{Right: 300}
	for _, c := range []struct {
		name     string
		carriage impl.Carriage
		line     string
		want     []impl.Act
		code     int64
	}{
		{"no line", smallCarriage(), "", nil, impl.OK},
		{"blanks only", smallCarriage(), "  ", nil, impl.OK},
		{"as many blanks as can be", smallCarriage(), blanks[:300], nil, impl.OK},
		{"too many blanks", smallCarriage(), blanks, nil, impl.ErrRange},
		{"blanks at its end", smallCarriage(), " a  b!~   ", acts(" a  b!~"), impl.OK},
		{"as many as there is room for", smallCarriage(), "         a", acts("         a"), impl.OK},
		{"blanks beyond the margin", smallCarriage(), "         a         ", acts("         a"), impl.OK},
		{"one too many", smallCarriage(), "          a", nil, impl.ErrFull},
		{"a half too few", impl.Carriage{Right: 21}, "abcdefghijk", nil, impl.ErrFull},
		{"just enough", impl.Carriage{Right: 22}, "abcdefghijk", acts("abcdefghijk"), impl.OK},
		{"a full line", widest, long, acts(long), impl.OK},
		{"more than a full line", widest, long + "a", nil, impl.ErrFull},
		{"MaxHalf letters", widest, long + long, nil, impl.ErrFull},
		{"more than MaxHalf letters", widest, long + long + "a", nil, impl.ErrRange},
		{"a control byte", smallCarriage(), "a\x1f", nil, impl.ErrRange},
		{"a tabulator at its end", smallCarriage(), "a\t", nil, impl.ErrRange},
		{"a byte of 127", smallCarriage(), "\x7f", nil, impl.ErrRange},
		{"no ASCII", smallCarriage(), "é", nil, impl.ErrRange},
		{"a wrong byte behind a full line", smallCarriage(), long + "\n", nil, impl.ErrRange},
	} {
		list, code := impl.ActsForLine(c.carriage, c.line)
		is(t, "ActsForLine, "+c.name, all(list, code), c.want, c.code)
	}
	for _, c := range wrongCarriages() {
		for _, line := range []string{"", "a", "\n", long, long + blanks} {
			list, code := impl.ActsForLine(c, line)
			is(t, "no carriage", all(list, code), []int{}, impl.ErrInvalid)
		}
	}
}

func TestActText(t *testing.T) {
	for text, want := range map[string]string{"": "", "a": "'a", "'": "''", "aB": "'a 'B", " <+[]": "space back half free return", "~ !": "'~ space '!"} {
		is(t, "ActText", all(impl.ActText(acts(text))), want)
	}
	is(t, "200 acts", all(impl.ActText(acts(strings.Repeat("a ", 100)))), strings.TrimSuffix(strings.Repeat("'a space ", 100), " "))
	for _, list := range slices.Concat(wrongActs(), [][]impl.Act{nil}) {
		is(t, "no acts", all(impl.ActText(list)), "")
	}
}
