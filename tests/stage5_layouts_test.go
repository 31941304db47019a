package tests

import (
	"strings"
	"testing"

	"loop.example/g01045/impl"
)

// layout makes a layout of its text, whether it is valid or not.
func layout(text string) impl.Layout { return impl.Layout{Rows: strings.Split(text, "/")} }

// desk is a layout with rows of different lengths.
func desk() impl.Layout { return layout("qwert/asd/z") }

// fullLayout has the most rows and the most letters in each of them.
func fullLayout() impl.Layout { return layout("!~cdefghijkl/mnopqrstuvwx/ABCDEFGHIJKL/MNOPQRSTUVWX") }

// rightTexts returns texts of layouts.
func rightTexts() []string {
	return []string{"a", "!", "~", "ab", "a/b", "a/b/c/d", "ab/c", "a/bc", "qwe/as", "aA/bB", "abcdefghijkl", "a/bcdefghijklm", "a/b/c/defghijklmno",
		".,-/+*%", "\"\\/'`", "0/1/2/3", strings.Join(fullLayout().Rows, "/")}
}

// wrongTexts returns texts that are no layouts.
func wrongTexts() []string {
	return []string{"", "/", "//", "///", "////", "/a", "a/", "a//b", "a/b/", "a/b/c/d/", "a/b/c/d/e", "a/b/c//d", " ", " a", "a ", "a b", "a/ ", "\x00", "\x1f", "a\x7f", "\x80", "a\xff", "é", "aé", "\n", "a\n",
		"aa", "aba", "a/a", "ab/cb", "a/b/c/a", "abcdefghijklm", "a/bcdefghijklmn", "abcdefghijkl/mnopqrstuvwxy", "abcdefghijkla", "abcdefghijkl ", strings.Repeat("a", 100000), strings.Repeat("/", 100000), strings.Repeat("a/", 50000)}
}

// wrongLayouts returns layouts that are not valid, some of which have a text that could be read.
func wrongLayouts() []impl.Layout {
	list := []impl.Layout{{}, {Rows: []string{}}, {Rows: []string{""}}, {Rows: []string{"/"}}, {Rows: []string{"a/b"}}, {Rows: []string{"a", "b/c"}}, {Rows: []string{"a/b", "c"}},
		{Rows: []string{"a/"}}, {Rows: []string{"/a"}}, {Rows: []string{"a", "/"}}, {Rows: []string{"a/b/c/d"}}, {Rows: make([]string, 4)}, {Rows: make([]string, 5)}, {Rows: make([]string, 100000)}}
	for _, text := range wrongTexts() {
		list = append(list, layout(text))
	}
	return list
}

// wrongLetters returns texts that are no letter.
func wrongLetters() []string {
	return []string{"", "qw", "qq", " ", "\x00", "\x1f", "\x7f", "\x80", "\xff", "é", "q ", " q", "\n", strings.Repeat("q", 100000)}
}

func TestValidLayout(t *testing.T) {
	is(t, "limits", all(impl.MaxRowsOfKeys, impl.MaxKeysInRow), 4, 12)
	is(t, "faults", all(impl.LayoutRows, impl.LayoutLetter, impl.LayoutTwice, impl.LayoutLong), 1, 2, 3, 4)
	for _, text := range rightTexts() {
		if !impl.ValidLayout(layout(text)) {
			t.Errorf("%q is a layout", text)
		}
	}
	for _, x := range wrongLayouts() {
		if impl.ValidLayout(x) {
			t.Errorf("%q is no layout", x.Rows)
		}
	}
	for c := range 256 {
		row := "a" + string([]byte{byte(c)})
		if want := c >= 33 && c <= 126 && c != '/' && c != 'a'; impl.ValidLayout(impl.Layout{Rows: []string{row}}) != want || impl.ValidLayout(impl.Layout{Rows: []string{"a", row[1:]}}) != want {
			t.Errorf("with the byte %d, validity is not %v", c, want)
		}
	}
}

func TestSameLayout(t *testing.T) {
	for _, c := range []struct {
		a, b impl.Layout
		want bool
	}{
		{desk(), desk(), true}, {layout("a"), layout("a"), true}, {layout("a"), layout("b"), false}, {layout("ab"), layout("ba"), false}, {layout("ab"), layout("a/b"), false},
		{layout("ab/c"), layout("a/bc"), false}, {layout("a/b"), layout("b/a"), false}, {layout("a/b"), layout("a"), false}, {layout("a"), layout("a/b"), false}, {layout("a"), layout("A"), false},
		{layout("a/b/c/d"), layout("a/b/c/e"), false}, {impl.Layout{}, impl.Layout{Rows: []string{}}, true}, {impl.Layout{}, impl.Layout{}, true}, {impl.Layout{}, layout(""), false},
		{layout("aa/ \xff//"), layout("aa/ \xff//"), true}, {layout("aa/ \xff//"), layout("aa/ \xfe//"), false}, {impl.Layout{Rows: []string{"a/b"}}, layout("a/b"), false},
	} {
		is(t, "equal", all(c.a, c.b, impl.SameLayout(c.a, c.b), impl.SameLayout(c.b, c.a)), c.a, c.b, c.want, c.want)
	}
}

func TestLayoutFault(t *testing.T) {
	twelve := "abcdefghijkl"
	for _, c := range []struct {
		name, text string
		fault, at  int64
	}{
		{"the empty text", "", impl.LayoutRows, 0},
		{"a row that is empty at the beginning", "/a", impl.LayoutRows, 0},
		{"in the middle", "a//b", impl.LayoutRows, 2},
		{"behind the middle", "a/bc//d", impl.LayoutRows, 5},
		{"at the end", "qwe/", impl.LayoutRows, 4},
		{"at the end of four", "a/b/c/", impl.LayoutRows, 6},
		{"only a break", "/", impl.LayoutRows, 0},
		{"only breaks", "////", impl.LayoutRows, 0},
		{"MaxRowsOfKeys", "a/b/c/d", 0, 0},
		{"one row more", "a/b/c/d/e", impl.LayoutRows, 7},
		{"one empty row more", "a/b/c/d/", impl.LayoutRows, 7},
		{"one row more, and wrong letters behind it", "a/b/c/d/a \x00", impl.LayoutRows, 7},
		{"MaxKeysInRow", twelve, 0, 0},
		{"one letter more", twelve + "m", impl.LayoutLong, 12},
		{"one letter more in the last row", "A/B/C/" + twelve + "m", impl.LayoutLong, 18},
		{"two letters more", twelve + "mn", impl.LayoutLong, 12},
		{"a break behind twelve letters", twelve + "/" + "m", 0, 0},
		{"the row after it", twelve + "/" + "mnopqrstuvwxy", impl.LayoutLong, 25},
		{"a blank", "q e", impl.LayoutLetter, 1},
		{"the first byte is no letter", "\x1fq", impl.LayoutLetter, 0},
		{"the last byte is no letter", "qw/e\x7f", impl.LayoutLetter, 4},
		{"several bytes", "qé", impl.LayoutLetter, 1},
		{"other bytes than UTF-8", "q\xffw", impl.LayoutLetter, 1},
		{"twice in a row", "qwq", impl.LayoutTwice, 2},
		{"side by side", "qq", impl.LayoutTwice, 1},
		{"twice in two rows", "qw/eq", impl.LayoutTwice, 4},
		{"in the first and the last row", "q/w/e/q", impl.LayoutTwice, 6},
		{"three times", "qwqq", impl.LayoutTwice, 2},
		{"the first one of two letters", "qwwq", impl.LayoutTwice, 2},
		{"small and large letters", "qQ/wW", 0, 0},
		{"no letter that is one too many", twelve + " ", impl.LayoutLetter, 12},
		{"no letter that is twice", "q  ", impl.LayoutLetter, 1},
		{"twice and one too many", twelve + "a", impl.LayoutTwice, 12},
		{"the last one twice and one too many", twelve + "l", impl.LayoutTwice, 12},
		{"twice, of another row, and one too many", "m/" + twelve + "m", impl.LayoutTwice, 14},
		{"one too many, then twice", twelve + "ma", impl.LayoutLong, 12},
		{"twice, then one too many", "abcdefghijaklm", impl.LayoutTwice, 10},
		{"no letter before an empty row", "a //", impl.LayoutLetter, 1},
		{"twice before an empty row", "aa/", impl.LayoutTwice, 1},
		{"an empty row before no letter", "a// ", impl.LayoutRows, 2},
		{"the most of all", strings.Join(fullLayout().Rows, "/"), 0, 0},
		{"one row more behind the most", strings.Join(fullLayout().Rows, "/") + "/", impl.LayoutRows, 51},
		{"one letter more behind the most", strings.Join(fullLayout().Rows, "/") + "Z", impl.LayoutLong, 51},
	} {
		fault, at := impl.LayoutFault(c.text)
		is(t, c.name, all(fault, at), c.fault, c.at)
	}
}

func TestTextsOfLayouts(t *testing.T) {
	x, ok := impl.ReadLayout("qwe/as")
	is(t, "rows", all(len(x.Rows), x.Rows, ok), 2, []string{"qwe", "as"}, true)
	for _, text := range rightTexts() {
		x, ok := impl.ReadLayout(text)
		is(t, "read", all(x, len(x.Rows), ok), layout(text), 1+strings.Count(text, "/"), true)
		is(t, "written", all(impl.LayoutText(layout(text))), text)
		fault, at := impl.LayoutFault(text)
		is(t, "no fault", all(text, fault, at), text, 0, 0)
	}
	for _, text := range wrongTexts() {
		x, ok := impl.ReadLayout(text)
		is(t, "refused", all(x, ok), impl.Layout{}, false)
		if fault, _ := impl.LayoutFault(text); fault == 0 {
			t.Errorf("%q has a fault", text)
		}
	}
	for _, x := range wrongLayouts() {
		is(t, "no text", all(impl.LayoutText(x)), "")
	}
}

func TestSpotOfLetter(t *testing.T) {
	for _, x := range []impl.Layout{desk(), fullLayout(), layout("a"), layout("!/~")} {
		for r, row := range x.Rows {
			for c := range row {
				gotRow, gotColumn, code := impl.SpotOfLetter(x, row[c:c+1])
				is(t, "spot", all(row[c:c+1], gotRow, gotColumn, code), row[c:c+1], r, c, impl.OK)
			}
		}
	}
	for _, letter := range []string{"y", "Q", "!", "~", "/"} {
		row, column, code := impl.SpotOfLetter(desk(), letter)
		is(t, "not there", all(letter, row, column, code), letter, 0, 0, impl.ErrNotFound)
	}
	for _, letter := range wrongLetters() {
		row, column, code := impl.SpotOfLetter(desk(), letter)
		is(t, "no letter", all(row, column, code), 0, 0, impl.ErrRange)
	}
}

func TestExchangeLetters(t *testing.T) {
	for _, c := range []struct{ x, a, b, want string }{
		{"qwe/as", "q", "s", "swe/aq"}, {"qwe/as", "s", "q", "swe/aq"}, {"qwe/as", "q", "e", "ewq/as"}, {"qwe/as", "e", "a", "qwa/es"}, {"qwe/as", "a", "s", "qwe/sa"},
		{"qwe/as", "q", "q", "qwe/as"}, {"qwe/as", "s", "s", "qwe/as"}, {"a", "a", "a", "a"}, {"ab", "a", "b", "ba"}, {"!/a/b/~", "~", "!", "~/a/b/!"},
	} {
		x, code := impl.ExchangeLetters(layout(c.x), c.a, c.b)
		is(t, "exchanged", all(c.a, c.b, x, code), c.a, c.b, layout(c.want), impl.OK)
	}
	for _, c := range [][2]string{{"q", "y"}, {"y", "q"}, {"y", "y"}, {"x", "y"}, {"/", "q"}, {"q", "/"}, {"/", "/"}, {"Q", "q"}} {
		x, code := impl.ExchangeLetters(desk(), c[0], c[1])
		is(t, "not there", all(c, x, code), c, impl.Layout{}, impl.ErrNotFound)
	}
	for _, wrong := range wrongLetters() {
		for _, other := range []string{"q", "y", "/", "", wrong} {
			x, code := impl.ExchangeLetters(desk(), wrong, other)
			is(t, "the first one is no letter", all(x, code), impl.Layout{}, impl.ErrRange)
			x, code = impl.ExchangeLetters(desk(), other, wrong)
			is(t, "the second one is no letter", all(x, code), impl.Layout{}, impl.ErrRange)
		}
	}
}

func TestComparedLayouts(t *testing.T) {
	for _, c := range []struct {
		name, a, b, moved string
		plan              []string
		distance          int64
	}{
		{"the document's example", "abc", "cab", "abc", []string{"ac", "ba"}, 4},
		{"the other way", "cab", "abc", "abc", []string{"ca", "cb"}, 4},
		{"equal", "qwe/as", "qwe/as", "", nil, 0},
		{"one letter", "a", "a", "", nil, 0},
		{"two letters", "ab", "ba", "ab", []string{"ab"}, 2},
		{"two rows", "a/b", "b/a", "ab", []string{"ab"}, 2},
		{"neighbours in opposite corners", "ab/cd", "db/ca", "ad", []string{"ad"}, 4},
		{"rows of different lengths", "abcd/e", "ebcd/a", "ae", []string{"ae"}, 2},
		{"as far as can be", "abcdefghijkl/m/n/opqrstuvwxyz", "zbcdefghijkl/m/n/opqrstuvwxya", "az", []string{"az"}, 28},
		{"two circles of two", "abcd", "badc", "abcd", []string{"ab", "cd"}, 4},
		{"two circles, one in the other", "abcd", "dcba", "abcd", []string{"ad", "bc"}, 8},
		{"two circles that cross", "ab/cd", "cd/ab", "abcd", []string{"ac", "bd"}, 4},
		{"a circle of four", "abcd", "bcda", "abcd", []string{"ab", "ac", "ad"}, 6},
		{"a circle of four, the other way", "abcd", "dabc", "abcd", []string{"ad", "ba", "cb"}, 6},
		{"circles of two and three", "abc/de", "bca/ed", "abcde", []string{"ab", "ac", "de"}, 6},
		{"circles of three and three", "abcdef", "cabfde", "abcdef", []string{"ac", "ba", "df", "ed"}, 8},
		{"letters between that stay", "abcde", "cbeda", "ace", []string{"ac", "ae"}, 8},
		{"by ascending bytes", "~b!A/za", "A~bz/a!", "!Aabz~", []string{"~A", "b~", "!b", "!z", "!a"}, 12},
	} {
		a, b := layout(c.a), layout(c.b)
		moved, code := impl.MovedLetters(a, b)
		is(t, c.name, all("moved", moved, code), "moved", c.moved, impl.OK)
		plan, code := impl.ExchangePlan(a, b)
		is(t, c.name, all("plan", plan, code), "plan", c.plan, impl.OK)
		n, code := impl.FewestExchanges(a, b)
		is(t, c.name, all("fewest", n, code), "fewest", len(c.plan), impl.OK)
		distance, code := impl.DistanceOf(a, b)
		is(t, c.name, all("distance", distance, code), "distance", c.distance, impl.OK)
	}
}

// comparingReturns checks the code of all functions that compare two layouts.
func comparingReturns(t *testing.T, a, b impl.Layout, want int64) {
	t.Helper()
	moved, code := impl.MovedLetters(a, b)
	is(t, "MovedLetters", all(moved, code), "", want)
	n, code := impl.FewestExchanges(a, b)
	is(t, "FewestExchanges", all(n, code), 0, want)
	plan, code := impl.ExchangePlan(a, b)
	is(t, "ExchangePlan", all(plan, code), []string{}, want)
	distance, code := impl.DistanceOf(a, b)
	is(t, "DistanceOf", all(distance, code), 0, want)
}

func TestLayoutsThatCannotBeCompared(t *testing.T) {
	for _, c := range [][2]string{
		{"ab/c", "a/bc"}, {"abc", "ab/c"}, {"abc", "a/b/c"}, {"a/b", "ab"}, {"abc/de", "ab/cde"}, {"ab/c/d", "ab/cd"}, {"a/b/c/de", "a/b/cd/e"}, // as many letters, other rows
		{"abc", "abd"}, {"abc", "abC"}, {"a", "b"}, {"ab/c", "ab/d"}, {"abc", "def"}, {"abc", "dab"}, {"a/b/c/d", "a/b/c/e"}, // as many letters, other ones
		{"abc", "ab"}, {"ab", "a"}, {"a/b", "a"}, {"ab/c", "ab"}, {"a/b/c/d", "a/b/c"}, {"ab/c", "ab/cd"},
	} {
		comparingReturns(t, layout(c[0]), layout(c[1]), impl.ErrClash)
		comparingReturns(t, layout(c[1]), layout(c[0]), impl.ErrClash)
	}
}

func TestRowShares(t *testing.T) {
	for _, c := range []struct {
		name, x, text string
		want          []int64
	}{
		{"some bytes", "qwe/as", "asqa", []int64{1, 3}},
		{"no byte", "qwe/as", "", []int64{0, 0}},
		{"no byte of four rows", "a/b/c/d", "", []int64{0, 0, 0, 0}},
		{"one row", "abc", "cabba", []int64{5}},
		{"a row without one", "a/b/c/d", "ddaca", []int64{2, 0, 1, 2}},
		{"100 bytes", "ab/c", strings.Repeat("abcca", 20), []int64{60, 40}},
		{"100 bytes of the last row", "ab/c", strings.Repeat("c", 100), []int64{0, 100}},
		{"the bytes 33 and 126", "a!/~", "!~~", []int64{1, 2}},
	} {
		shares, code := impl.RowShares(layout(c.x), c.text)
		is(t, c.name, all(shares, code), c.want, impl.OK)
	}
	for _, text := range []string{"z", "qz", "zq", "!", "~", "/", "q/a", "Q", strings.Repeat("z", 100), strings.Repeat("q", 99) + "z"} {
		shares, code := impl.RowShares(layout("qwe/as"), text)
		is(t, "on no row", all(text, shares, code), text, []int64{}, impl.ErrNotFound)
	}
	for _, text := range []string{" ", "q q", "q\x7f", "\x7f", "\x00", "\x1f", "\x80", "\xff", "é", "q\n", "z ", "zq\x7f", strings.Repeat("q", 101), strings.Repeat("z", 101), strings.Repeat("q", 100) + " ", strings.Repeat("q", 100000)} {
		shares, code := impl.RowShares(layout("qwe/as"), text)
		is(t, "no text", all(text, shares, code), text, []int64{}, impl.ErrRange)
	}
}

func TestMirrorLayout(t *testing.T) {
	for _, c := range [][2]string{{"qwe/as", "ewq/sa"}, {"a", "a"}, {"ab", "ba"}, {"abc", "cba"}, {"a/b/c/d", "a/b/c/d"}, {"abcd/e/fg", "dcba/e/gf"},
		{"!~cdefghijkl/mnopqrstuvwx/ABCDEFGHIJKL/MNOPQRSTUVWX", "lkjihgfedc~!/xwvutsrqponm/LKJIHGFEDCBA/XWVUTSRQPONM"}} {
		x, code := impl.MirrorLayout(layout(c[0]))
		is(t, "mirrored", all(x, code), layout(c[1]), impl.OK)
	}
}

func TestInvalidLayoutsComeFirst(t *testing.T) {
	for _, x := range wrongLayouts() {
		for _, letter := range append(wrongLetters(), "q", "y", "/", "a") {
			row, column, code := impl.SpotOfLetter(x, letter)
			is(t, "SpotOfLetter", all(row, column, code), 0, 0, impl.ErrInvalid)
			y, code := impl.ExchangeLetters(x, letter, "a")
			is(t, "ExchangeLetters", all(y, code), impl.Layout{}, impl.ErrInvalid)
			y, code = impl.ExchangeLetters(x, "a", letter)
			is(t, "ExchangeLetters", all(y, code), impl.Layout{}, impl.ErrInvalid)
			shares, code := impl.RowShares(x, letter)
			is(t, "RowShares", all(shares, code), []int64{}, impl.ErrInvalid)
		}
		for _, text := range []string{"", "a", " ", strings.Repeat("a", 101)} {
			shares, code := impl.RowShares(x, text)
			is(t, "RowShares", all(shares, code), []int64{}, impl.ErrInvalid)
		}
		y, code := impl.MirrorLayout(x)
		is(t, "MirrorLayout", all(y, code), impl.Layout{}, impl.ErrInvalid)
		for _, other := range []impl.Layout{desk(), layout("a"), layout("ab"), layout("a/b"), x, {}} {
			comparingReturns(t, x, other, impl.ErrInvalid)
			comparingReturns(t, other, x, impl.ErrInvalid)
		}
	}
}
