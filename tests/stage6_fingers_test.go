package tests

import (
	"fmt"
	"slices"
	"strings"
	"testing"

	"loop.example/g01045/impl"
)

// place makes a place of a board.
func place(finger, row, effort int64) impl.Place {
	return impl.Place{Finger: finger, Row: row, Effort: effort}
}

// examplePlaces is the board of the document's example.
func examplePlaces() []impl.Place { return []impl.Place{place(1, 0, 1), place(1, 1, 3)} }

// fullBoard has MaxBoard places, of which the first and the third one are alike.
func fullBoard() []impl.Place {
	return []impl.Place{place(1, 0, 1), place(1, 3, 3), place(1, 0, 1), place(2, 1, 0), place(3, 3, 50), place(4, 0, 7)}
}

// withPlace returns fullBoard with another place at an index.
func withPlace(at int, p impl.Place) []impl.Place {
	list := fullBoard()
	list[at] = p
	return list
}

// wrongBoards returns lists that are no boards.
func wrongBoards() [][]impl.Place {
	list := [][]impl.Place{nil, {}, append(fullBoard(), place(0, 0, 0)), make([]impl.Place, 7), make([]impl.Place, 100000)}
	for _, p := range []impl.Place{place(-1, 0, 0), place(8, 0, 0), place(0, -1, 0), place(0, 4, 0), place(0, 0, -1), place(0, 0, 51),
		place(-1<<63, 0, 0), place(1<<63-1, 0, 0), place(0, -1<<63, 0), place(0, 1<<63-1, 0), place(0, 0, -1<<63), place(0, 0, 1<<63-1)} {
		list = append(list, []impl.Place{p})
		for at := range fullBoard() {
			list = append(list, withPlace(at, p))
		}
	}
	return list
}

// wrongLetterings returns texts that are no layouts of a board with three places.
func wrongLetterings() []string {
	return []string{"", "a", "ab", "abcd", "aab", "aba", "baa", "aaa", "   ", "\x1fab", "a\x1fb", "ab\x1f", "\x7fab", "a\x7fb", "ab\x7f", "ab\x00", "ab\x80", "ab\xff", "aé", "éa", "日", "ab\n",
		"abcdef", strings.Repeat("abc", 40000)}
}

// strangeTexts returns texts that are none for the layout abc.
func strangeTexts() []string {
	return []string{"d", "dab", "adb", "abd", "A", " ", "a b", "abc ", "\x00", "a\x7f", "\xff", "aé", "abc\n", strings.Repeat("a", 401), strings.Repeat("d", 401),
		strings.Repeat("a", 399) + "d", "d" + strings.Repeat("a", 399), strings.Repeat("a", 400) + "d", strings.Repeat("abc", 40000)}
}

// typingReturns checks that all functions on texts return a code other than OK, and nothing beside it.
func typingReturns(t *testing.T, list []impl.Place, layout, text string, want int64) {
	t.Helper()
	cost, code := impl.TextCost(list, layout, text)
	is(t, "TextCost", all(cost, code), 0, want)
	best, least, code := impl.BestLayout(list, layout, text)
	is(t, "BestLayout", all(best, least, code), "", 0, want)
	left, right, code := impl.HandsOf(list, layout, text)
	is(t, "HandsOf", all(left, right, code), 0, 0, want)
	fingers, code := impl.FingersOf(list, layout, text)
	is(t, "FingersOf", all(fingers, code), []int64{}, want)
	changes, code := impl.AlternationsOf(list, layout, text)
	is(t, "AlternationsOf", all(changes, code), 0, want)
	dearest, code := impl.DearestPair(list, layout, text)
	is(t, "DearestPair", all(dearest, code), 0, want)
}

func TestValidBoard(t *testing.T) {
	is(t, "limits", all(impl.MaxBoard, impl.MaxFinger, impl.MaxEffort), 6, 7, 50)
	for _, list := range [][]impl.Place{{place(0, 0, 0)}, {place(7, 3, 50)}, examplePlaces(), fullBoard(), make([]impl.Place, 6), withPlace(0, place(7, 0, 0)), withPlace(5, place(0, 3, 0)), withPlace(3, place(0, 0, 50))} {
		if !impl.ValidBoard(list) {
			t.Errorf("%v is a board", list)
		}
	}
	for _, list := range wrongBoards() {
		if impl.ValidBoard(list) {
			t.Errorf("%v is no board", list)
		}
	}
}

func TestStrokeCost(t *testing.T) {
	for _, c := range []struct {
		name        string
		before, now impl.Place
		want        int64
	}{
		{"the document's example", place(1, 0, 1), place(1, 1, 3), 18},
		{"the other way", place(1, 1, 3), place(1, 0, 1), 16},
		{"a finger in the same row", place(2, 1, 9), place(2, 1, 5), 15},
		{"places that are alike", place(2, 1, 5), place(2, 1, 5), 15},
		{"places without any effort", place(0, 0, 0), place(0, 0, 0), 10},
		{"two rows", place(2, 0, 9), place(2, 2, 5), 25},
		{"two rows back", place(2, 3, 9), place(2, 1, 5), 25},
		{"three rows", place(7, 0, 9), place(7, 3, 5), 30},
		{"three rows back", place(7, 3, 9), place(7, 0, 5), 30},
		{"the dearest stroke", place(4, 0, 0), place(4, 3, 50), 75},
		{"the next finger", place(1, 1, 9), place(2, 1, 5), 7},
		{"the finger before", place(2, 1, 9), place(1, 1, 5), 7},
		{"other rows of other fingers", place(0, 0, 9), place(3, 3, 5), 7},
		{"fingers of the right hand", place(4, 2, 9), place(7, 0, 5), 7},
		{"the last fingers", place(7, 2, 9), place(6, 2, 0), 2},
		{"the other hand", place(3, 1, 9), place(4, 1, 5), 5},
		{"and back", place(4, 1, 9), place(3, 1, 5), 5},
		{"other rows of the other hand", place(0, 0, 9), place(7, 3, 5), 5},
		{"from the last to the first finger", place(7, 3, 9), place(0, 0, 0), 0},
		{"from the right hand to the same finger of the left one", place(5, 3, 9), place(1, 0, 50), 50},
	} {
		list := []impl.Place{c.before, c.now}
		cost, code := impl.StrokeCost(list, 0, 1)
		is(t, c.name, all(cost, code), c.want, impl.OK)
		cost, code = impl.StrokeCost([]impl.Place{c.now, place(3, 0, 1), c.before}, 2, 0)
		is(t, c.name+", at other indices", all(cost, code), c.want, impl.OK)
		for at, p := range list {
			cost, code = impl.StrokeCost(list, int64(at), int64(at))
			is(t, "the same place twice", all(cost, code), p.Effort, impl.OK)
		}
	}
}

func TestIndicesOfStrokes(t *testing.T) {
	for _, list := range [][]impl.Place{{place(1, 0, 4)}, examplePlaces(), fullBoard()} {
		n := int64(len(list))
		for _, wrong := range []int64{-1, n, n + 1, 7, -1 << 63, 1<<63 - 1} {
			for _, other := range []int64{0, n - 1, wrong, -1, n} {
				cost, code := impl.StrokeCost(list, wrong, other)
				is(t, "before is no place", all(cost, code), 0, impl.ErrRange)
				cost, code = impl.StrokeCost(list, other, wrong)
				is(t, "now is no place", all(cost, code), 0, impl.ErrRange)
			}
		}
		cost, code := impl.StrokeCost(list, n-1, n-1)
		is(t, "the last place", all(cost, code), list[n-1].Effort, impl.OK)
		cost, code = impl.StrokeCost(list, 0, 0)
		is(t, "the first place", all(cost, code), list[0].Effort, impl.OK)
	}
}

func TestTextCost(t *testing.T) {
	four := []impl.Place{place(0, 0, 1), place(0, 0, 1), place(1, 2, 4), place(7, 1, 8)}
	for _, c := range []struct {
		name         string
		list         []impl.Place
		layout, text string
		want         int64
	}{
		{"the document's example", examplePlaces(), "ab", "aab", 20},
		{"the other layout", examplePlaces(), "ba", "aab", 22},
		{"no byte", examplePlaces(), "ab", "", 0},
		{"the first stroke", examplePlaces(), "ab", "a", 1},
		{"the first stroke at the last place", examplePlaces(), "ab", "b", 3},
		{"the first stroke without effort", []impl.Place{place(3, 3, 0)}, "x", "x", 0},
		{"one place", []impl.Place{place(5, 2, 50)}, "~", "~~~", 150},
		{"the first stroke of another hand than the first place", four, "abcd", "d", 8},
		{"places that are alike", four, "abcd", "ab", 12},
		{"and the same one", four, "abcd", "aa", 2},
		{"all ways", four, "abcd", "abbcdda", 1 + 11 + 1 + 6 + 8 + 8 + 1},
		{"a blank as a letter", four, " ~cd", "  ~c", 1 + 1 + 11 + 6},
		{"400 bytes", examplePlaces(), "ab", strings.Repeat("a", 400), 400},
		{"400 dear bytes", []impl.Place{place(2, 0, 50), place(2, 3, 50)}, "ab", strings.Repeat("ab", 200), 50 + 399*75},
		{"of six places, the last two", fullBoard(), "abcdef", "efe", 50 + 7 + 50},
	} {
		cost, code := impl.TextCost(c.list, c.layout, c.text)
		is(t, c.name, all(cost, code), c.want, impl.OK)
	}
}

func TestBestLayout(t *testing.T) {
	hands := []impl.Place{place(3, 0, 1), place(4, 0, 1)}
	for _, c := range []struct {
		name          string
		list          []impl.Place
		letters, text string
		best          string
		least         int64
	}{
		{"the document's example", examplePlaces(), "ab", "aab", "ab", 20},
		{"letters in another order", examplePlaces(), "ba", "aab", "ab", 20},
		{"the other one is better", examplePlaces(), "ab", "bba", "ba", 20},
		{"the better one is told first", examplePlaces(), "ba", "bba", "ba", 20},
		{"equally dear", hands, "ab", "abab", "ab", 4},
		{"equally dear, letters in another order", hands, "ba", "abab", "ab", 4},
		{"no byte", fullBoard(), "fedcba", "", "abcdef", 0},
		{"one place", []impl.Place{place(5, 2, 50)}, "~", "~~", "~", 100},
		{"one place and no byte", []impl.Place{place(5, 2, 50)}, " ", "", " ", 0},
		{"the first stroke only", []impl.Place{place(0, 0, 5), place(0, 1, 3), place(0, 2, 4)}, "cba", "c", "acb", 3},
		{"the first stroke of two", []impl.Place{place(0, 0, 1), place(4, 0, 0)}, "ab", "a", "ba", 0},
		{"the first one of two places that are alike", []impl.Place{place(7, 1, 9), place(2, 1, 1), place(2, 1, 1)}, "bac", "a", "bac", 1},
		{"a stroke of more effort is better than a way over rows", []impl.Place{place(0, 0, 0), place(0, 3, 0), place(7, 0, 1)}, "abc", "abc", "acb", 1},
		{"bytes, not letters of a language", []impl.Place{place(0, 0, 1), place(4, 0, 1), place(1, 0, 1)}, "~a ", "~", " a~", 1},
		{"small letters come behind large ones", []impl.Place{place(0, 0, 1), place(4, 0, 1)}, "aB", "aB", "Ba", 2},
	} {
		best, least, code := impl.BestLayout(c.list, c.letters, c.text)
		is(t, c.name, all(best, least, code), c.best, c.least, impl.OK)
	}
}

func TestHandsAndFingers(t *testing.T) {
	five := []impl.Place{place(0, 0, 0), place(3, 0, 0), place(4, 0, 0), place(7, 0, 0), place(3, 1, 0)}
	for _, c := range []struct {
		name, layout, text   string
		left, right, changes int64
		fingers              []int64
	}{
		{"no byte", "abcde", "", 0, 0, 0, []int64{0, 0, 0, 0, 0, 0, 0, 0}},
		{"one byte of the left hand", "abcde", "b", 1, 0, 0, []int64{0, 0, 0, 1, 0, 0, 0, 0}},
		{"one byte of the right hand", "abcde", "c", 0, 1, 0, []int64{0, 0, 0, 0, 1, 0, 0, 0}},
		{"the last finger", "abcde", "ddd", 0, 3, 0, []int64{0, 0, 0, 0, 0, 0, 0, 3}},
		{"all fingers of a hand", "abcde", "abeba", 5, 0, 0, []int64{2, 0, 0, 3, 0, 0, 0, 0}},
		{"one change", "abcde", "aabcd", 3, 2, 1, []int64{2, 0, 0, 1, 1, 0, 0, 1}},
		{"and back", "abcde", "bcb", 2, 1, 2, []int64{0, 0, 0, 2, 1, 0, 0, 0}},
		{"from the right hand", "abcde", "ca", 1, 1, 1, []int64{1, 0, 0, 0, 1, 0, 0, 0}},
		{"another layout", "dcbae", "aabcd", 2, 3, 1, []int64{1, 0, 0, 1, 1, 0, 0, 2}},
		{"400 bytes", "abcde", strings.Repeat("ad", 200), 200, 200, 399, []int64{200, 0, 0, 0, 0, 0, 0, 200}},
	} {
		left, right, code := impl.HandsOf(five, c.layout, c.text)
		is(t, c.name, all("hands", left, right, code), "hands", c.left, c.right, impl.OK)
		fingers, code := impl.FingersOf(five, c.layout, c.text)
		is(t, c.name, all("fingers", fingers, code), "fingers", c.fingers, impl.OK)
		changes, code := impl.AlternationsOf(five, c.layout, c.text)
		is(t, c.name, all("changes", changes, code), "changes", c.changes, impl.OK)
	}
}

func TestEachFinger(t *testing.T) {
	for finger := range int64(8) {
		list := []impl.Place{place(finger, 2, 1)}
		want := make([]int64, 8)
		want[finger] = 2
		fingers, code := impl.FingersOf(list, "x", "xx")
		is(t, "a finger", all(finger, fingers, code), finger, want, impl.OK)
		left, right, code := impl.HandsOf(list, "x", "xx")
		hands := []int64{2, 0}
		if finger > 3 {
			hands = []int64{0, 2}
		}
		is(t, "its hand", all(finger, left, right, code), finger, hands[0], hands[1], impl.OK)
	}
}

func TestDearestPair(t *testing.T) {
	for _, c := range []struct {
		name, layout, text string
		want               int64
	}{
		{"two bytes", "abcdef", "aa", 1},
		{"two bytes, the first one dearer", "abcdef", "ea", 1},
		{"the first stroke is not looked at", "abcdef", "eaab", 3},
		{"nor is a way to it", "abcdef", "baa", 1},
		{"the last stroke", "abcdef", "aaac", 3},
		{"equally dear", "abcdef", "aacaa", 2},
		{"all equally dear", "abcdef", "ffff", 1},
		{"strokes that cost nothing", "abcdef", "fdddd", 1},
		{"equally dear by effort and by the way", "abcdef", "dbdb", 1},
		{"the effort counts more than the way", "abcdef", "fbae", 3},
		{"the way counts more than the effort", "abcdef", "fffab", 4},
		{"the same place costs less than one that is alike", "abcdef", "aac", 2},
		{"another layout", "fedcba", "ffe", 2},
		{"the last one of 400 bytes", "abcdef", strings.Repeat("a", 399) + "b", 399},
		{"the first one of 399 ones", "abcdef", strings.Repeat("e", 400), 1},
	} {
		dearest, code := impl.DearestPair(fullBoard(), c.layout, c.text)
		is(t, c.name, all(dearest, code), c.want, impl.OK)
	}
	for _, text := range []string{"", "a", "e"} {
		dearest, code := impl.DearestPair(fullBoard(), "abcdef", text)
		is(t, "less than two bytes", all(text, dearest, code), text, 0, impl.ErrNotFound)
	}
	dearest, code := impl.DearestPair([]impl.Place{place(0, 0, 0)}, "a", "aa")
	is(t, "one place", all(dearest, code), 1, impl.OK)
}

func TestWrongLayoutsAndTexts(t *testing.T) {
	three := []impl.Place{place(1, 0, 1), place(1, 1, 3), place(5, 1, 2)}
	for _, layout := range wrongLetterings() {
		for _, text := range []string{"", "a", "aa", "ab", layout} {
			typingReturns(t, three, layout, text, impl.ErrRange)
		}
	}
	for _, text := range strangeTexts() {
		typingReturns(t, three, "abc", text, impl.ErrRange)
		typingReturns(t, three, "cab", text, impl.ErrRange)
		typingReturns(t, three, "aba", text, impl.ErrRange)
	}
	typingReturns(t, []impl.Place{place(1, 0, 1)}, "", "", impl.ErrRange)
	typingReturns(t, []impl.Place{place(1, 0, 1)}, "ab", "", impl.ErrRange)
	typingReturns(t, fullBoard(), "abcde", "", impl.ErrRange)
	typingReturns(t, fullBoard(), "abcdefg", "", impl.ErrRange)
	typingReturns(t, fullBoard(), "abcdea", "", impl.ErrRange)
}

func TestLettersByEachByte(t *testing.T) {
	for c := range 256 {
		letter := string([]byte{byte(c)})
		for at, layout := range []string{letter + "ab", "a" + letter + "b", "ab" + letter} {
			if c < 32 || c > 126 || c == 'a' || c == 'b' {
				typingReturns(t, fullBoard()[:3], layout, "ab", impl.ErrRange)
				continue
			}
			cost, code := impl.TextCost(fullBoard()[:3], layout, letter)
			is(t, fmt.Sprintf("the byte %d", c), all(cost, code), fullBoard()[at].Effort, impl.OK)
			best, _, code := impl.BestLayout(fullBoard()[:3], layout, "")
			bytes := []byte(layout)
			slices.Sort(bytes)
			is(t, fmt.Sprintf("the letters with the byte %d", c), all(best, code), string(bytes), impl.OK)
		}
	}
}

func TestInvalidBoardsComeFirst(t *testing.T) {
	for _, list := range wrongBoards() {
		for _, layout := range []string{"", "a", "abcdef", "abcdefg", "aa", "\x1f"} {
			for _, text := range []string{"", "a", "ab", "z", strings.Repeat("a", 401)} {
				typingReturns(t, list, layout, text, impl.ErrInvalid)
			}
		}
		for _, index := range []int64{-1, 0, 1, int64(len(list)) - 1, int64(len(list))} {
			for _, other := range []int64{-1, 0, index} {
				cost, code := impl.StrokeCost(list, index, other)
				is(t, "StrokeCost", all(cost, code), 0, impl.ErrInvalid)
				cost, code = impl.StrokeCost(list, other, index)
				is(t, "StrokeCost", all(cost, code), 0, impl.ErrInvalid)
			}
		}
	}
}
