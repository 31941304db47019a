package tests

import (
	"strings"
	"testing"

	"loop.example/g01045/impl"
)

// square makes a table of pairs with the same number everywhere.
func square(letters int, n int64) [][]int64 {
	var rows [][]int64
	for range letters {
		row := make([]int64, letters)
		for i := range row {
			row[i] = n
		}
		rows = append(rows, row)
	}
	return rows
}

// pairsAt makes a table of pairs from triples of a row, a column and a number, and zeros elsewhere.
func pairsAt(letters int, triples ...[3]int64) [][]int64 {
	rows := square(letters, 0)
	for _, p := range triples {
		rows[p[0]][p[1]] = p[2]
	}
	return rows
}

// threePairs has five pairs of a and b, one of b and c, and one of c and itself.
func threePairs() [][]int64 {
	return pairsAt(3, [3]int64{0, 1, 5}, [3]int64{1, 2, 1}, [3]int64{2, 2, 1})
}

// stuckPairs is a table for which the bars 0 to 3 have a best arrangement that exchanges do not lead to from 0, 1, 2, 3.
func stuckPairs() [][]int64 { return [][]int64{{0, 0, 1, 2}, {0, 0, 1, 1}, {0, 0, 0, 2}, {0, 0, 0, 0}} }

// bars returns smallBasket with another number of bars.
func bars(n int64) impl.Basket {
	b := smallBasket()
	b.Bars = n
	return b
}

// flat has bars that need not wait longer for those near to them.
func flat() impl.Basket { return impl.Basket{Bars: 10, Rise: 3, Fall: 2, Clear: 2} }

// sharp has bars that wait longer for those side by side only.
func sharp() impl.Basket { return impl.Basket{Bars: 10, Rise: 3, Fall: 2, Clear: 2, Near: 2} }

// steep has bars that wait a tick less for each place that they are further apart.
func steep(n int64) impl.Basket {
	return impl.Basket{Bars: n, Rise: 1, Fall: 1, Clear: 5, Near: 100}
}

// largest has the most bars, which wait longest.
func largest() impl.Basket {
	return impl.Basket{Bars: 60, Rise: 100, Fall: 100, Clear: 100, Near: 100}
}

// wrongTables returns rows that are no tables of pairs.
func wrongTables() [][][]int64 {
	return [][][]int64{nil, {}, {{}}, {{0}}, {nil, nil}, {{}, {}}, {{0, 0}}, {{0, 0}, {0}}, {{0}, {0, 0}}, {{0, 0}, {0, 0}, {0, 0}}, {{0, 0}, {0, 0, 0}},
		{{0, 0, 0}, {0, 0, 0}}, {{0, 0, 0}, {0, 0, 0}, nil}, {{-1, 0}, {0, 0}}, {{0, 0}, {0, -1}}, {{1001, 0}, {0, 0}}, {{0, 0}, {0, 1001}}, {{0, 1001}, {0, 0}},
		{{0, 0}, {-1 << 63, 0}}, {{0, 1<<63 - 1}, {0, 0}}, pairsAt(7, [3]int64{6, 6, 1001}), pairsAt(7, [3]int64{6, 0, -1}), square(8, 0), square(8, 1), square(1, 5), square(100, 0)}
}

// wrongPlaces returns lists that are no arrangement of any letters on smallBasket.
func wrongPlaces() [][]int64 {
	return [][]int64{nil, {}, {-1}, {10}, {0, 1, 10}, {10, 1, 0}, {0, -1, 1}, {0, 1, 0}, {0, 0, 1}, {1, 0, 0}, {9, 9}, {0, 1, 2, 3, 4, 5, 0}, {0, 1, 2, 3, 4, 5, 10},
		{0, 1, 2, 3, 4, 5, 6, 7}, {1<<63 - 1, 0, 1}, {0, 1, -1 << 63}, make([]int64, 10000)}
}

func TestValidPairs(t *testing.T) {
	is(t, "limits", all(impl.MaxLetters, impl.MaxPairs), 7, 1000)
	for _, pairs := range [][][]int64{square(2, 0), square(2, 1000), square(3, 5), square(7, 0), square(7, 1000), threePairs(), stuckPairs(), {{0, 1000}, {1, 999}}} {
		if !impl.ValidPairs(pairs) {
			t.Errorf("%v are pairs", pairs)
		}
	}
	for _, pairs := range wrongTables() {
		if impl.ValidPairs(pairs) {
			t.Errorf("%v are no pairs", pairs)
		}
	}
}

func TestPairsOf(t *testing.T) {
	for _, c := range []struct {
		name, letters, text string
		want                [][]int64
	}{
		{"the document's example", "ab", "aabab", [][]int64{{1, 2}, {1, 0}}},
		{"no byte", "ab", "", square(2, 0)},
		{"one byte", "ab", "a", square(2, 0)},
		{"two bytes", "ab", "ab", [][]int64{{0, 1}, {0, 0}}},
		{"letters in another order", "ba", "ab", [][]int64{{0, 0}, {1, 0}}},
		{"a letter that is not there", "abc", "acca", [][]int64{{0, 0, 1}, {0, 0, 0}, {1, 0, 1}}},
		{"other bytes are between", "ab", "axb b\na", square(2, 0)},
		{"other bytes of any value", "ab", "ab\x00ba\xffab\x7f", [][]int64{{0, 2}, {1, 0}}},
		{"other bytes than UTF-8", "ab", "aéb\xc3a", square(2, 0)},
		{"the first and the last letter", "~ ", " ~~ ", [][]int64{{1, 1}, {1, 0}}},
		{"small and large letters", "aA", "aaA", [][]int64{{1, 1}, {0, 0}}},
		{"seven letters", "gfedcba", "agfb", pairsAt(7, [3]int64{6, 0, 1}, [3]int64{0, 1, 1}, [3]int64{1, 5, 1})},
		{"one less than MaxPairs", "ab", strings.Repeat("a", 1000), [][]int64{{999, 0}, {0, 0}}},
		{"MaxPairs", "ab", strings.Repeat("a", 1001), [][]int64{{1000, 0}, {0, 0}}},
		{"one more than MaxPairs", "ab", strings.Repeat("a", 1002), [][]int64{{1000, 0}, {0, 0}}},
		{"4000 bytes", "ab", strings.Repeat("b", 4000), [][]int64{{0, 0}, {0, 1000}}},
		{"two numbers at MaxPairs", "ab", strings.Repeat("ab", 2000), [][]int64{{0, 1000}, {1000, 0}}},
		{"other numbers go on", "ab", strings.Repeat("a", 1500) + "bba" + strings.Repeat("a", 1500), [][]int64{{1000, 1}, {1, 1}}},
		{"4000 other bytes", "ab", strings.Repeat("\xff", 3998) + "ab", [][]int64{{0, 1}, {0, 0}}},
	} {
		pairs, code := impl.PairsOf(c.letters, c.text)
		is(t, c.name, all(pairs, code), c.want, impl.OK)
	}
	for _, letters := range []string{"", "a", "aa", "aba", "abb", "abcdefgh", "abcdefga", "abcdefa", "a\x1f", "\x1fa", "a\x7f", "a\x80", "a\xff", "é", "a\n", "ab\x00", strings.Repeat("ab", 50000)} {
		for _, text := range []string{"", "a", "abab", strings.Repeat("a", 4001)} {
			pairs, code := impl.PairsOf(letters, text)
			is(t, "no letters", all(letters, pairs, code), letters, []int{}, impl.ErrRange)
		}
	}
	for _, text := range []string{strings.Repeat("a", 4001), strings.Repeat("x", 4001), strings.Repeat("é", 100000)} {
		pairs, code := impl.PairsOf("ab", text)
		is(t, "no text", all(pairs, code), []int{}, impl.ErrRange)
	}
}

func TestArrangeCost(t *testing.T) {
	for _, c := range []struct {
		name   string
		basket impl.Basket
		pairs  [][]int64
		places []int64
		want   int64
	}{
		{"side by side", bars(3), threePairs(), []int64{0, 1, 2}, 29},
		{"apart", bars(3), threePairs(), []int64{0, 2, 1}, 24},
		{"on other bars", smallBasket(), threePairs(), []int64{4, 5, 9}, 27},
		{"as far as they can be", smallBasket(), threePairs(), []int64{9, 5, 0}, 17},
		{"the last bars", smallBasket(), threePairs(), []int64{9, 8, 7}, 29},
		{"no pairs", smallBasket(), square(3, 0), []int64{0, 1, 2}, 0},
		{"a follows b", smallBasket(), [][]int64{{0, 0}, {3, 0}}, []int64{0, 1}, 12},
		{"b follows a", smallBasket(), [][]int64{{0, 3}, {0, 0}}, []int64{0, 1}, 12},
		{"both ways", smallBasket(), [][]int64{{0, 3}, {4, 0}}, []int64{1, 3}, 21},
		{"letters behind themselves", smallBasket(), [][]int64{{3, 0}, {0, 2}}, []int64{6, 1}, 25},
		{"two bars", impl.Basket{Bars: 2, Rise: 100, Fall: 100, Clear: 100, Near: 100}, square(2, 1000), []int64{1, 0}, 798000},
		{"the most of all", largest(), square(7, 1000), []int64{0, 1, 2, 3, 4, 5, 6}, 9688000},
	} {
		cost, code := impl.ArrangeCost(c.basket, c.pairs, c.places)
		is(t, c.name, all(cost, code), c.want, impl.OK)
	}
}

func TestBestArrange(t *testing.T) {
	first := []int64{0, 1, 2, 3, 4, 5, 6}
	for _, c := range []struct {
		name   string
		basket impl.Basket
		pairs  [][]int64
		want   []int64
		cost   int64
	}{
		{"as many bars as letters", bars(3), threePairs(), []int64{0, 2, 1}, 24},
		{"the first bars of more", bars(4), threePairs(), []int64{0, 2, 1}, 24},
		{"the first bars of ten", smallBasket(), threePairs(), []int64{0, 2, 1}, 24},
		{"two letters", bars(2), [][]int64{{1, 2}, {3, 4}}, []int64{0, 1}, 45},
		{"no pairs", smallBasket(), square(3, 0), first[:3], 0},
		{"no pairs of seven letters", bars(7), square(7, 0), first, 0},
		{"all of them cost the same", flat(), square(3, 1), first[:3], 27},
		{"only letters behind themselves", bars(3), pairsAt(3, [3]int64{0, 0, 3}, [3]int64{2, 2, 2}), first[:3], 25},
		{"two of six", bars(3), pairsAt(3, [3]int64{1, 2, 5}), []int64{1, 0, 2}, 15},
		{"two of six, the other way", bars(3), pairsAt(3, [3]int64{2, 1, 5}), []int64{1, 0, 2}, 15},
		{"four of six", sharp(), pairsAt(3, [3]int64{0, 1, 1}, [3]int64{1, 2, 1}), []int64{0, 2, 1}, 5},
		{"the last two letters", bars(4), pairsAt(4, [3]int64{2, 3, 1}), []int64{1, 2, 0, 3}, 2},
		{"several of four letters", bars(4), stuckPairs(), []int64{1, 2, 0, 3}, 21},
		{"the last two of seven", steep(7), pairsAt(7, [3]int64{5, 6, 1}), []int64{1, 2, 3, 4, 5, 0, 6}, 99},
		{"the first two of seven", steep(60), pairsAt(7, [3]int64{1, 0, 1}), []int64{0, 6, 1, 2, 3, 4, 5}, 99},
		{"the most of all", largest(), square(7, 1000), first, 9688000},
	} {
		places, cost, code := impl.BestArrange(c.basket, c.pairs)
		is(t, c.name, all(places, cost, code), c.want, c.cost, impl.OK)
	}
	for letters := 3; letters <= 7; letters++ {
		for n := int64(2); n < int64(letters); n++ {
			places, cost, code := impl.BestArrange(bars(n), square(letters, 1))
			is(t, "too few bars", all(places, cost, code), []int{}, 0, impl.ErrFull)
		}
		_, _, code := impl.BestArrange(bars(int64(letters)), square(letters, 1))
		is(t, "just enough bars", all(code), impl.OK)
	}
}

func TestArrangeBound(t *testing.T) {
	for _, c := range []struct {
		name   string
		basket impl.Basket
		pairs  [][]int64
		want   int64
	}{
		{"three letters", bars(3), threePairs(), 17},
		{"no pairs", bars(3), square(3, 0), 0},
		{"both ways", smallBasket(), [][]int64{{1, 10}, {100, 1000}}, 5225},
		{"less bars than letters", bars(2), square(7, 1), 119},
		{"Near is not looked at", flat(), threePairs(), 17},
		{"a bar waits less for itself", impl.Basket{Bars: 2, Rise: 1, Fall: 1, Clear: 7, Near: 9}, [][]int64{{3, 1}, {0, 0}}, 13},
		{"the most of all", largest(), square(7, 1000), 5600000},
	} {
		bound, code := impl.ArrangeBound(c.basket, c.pairs)
		is(t, c.name, all(bound, code), c.want, impl.OK)
	}
}

func TestSwapLetters(t *testing.T) {
	seven := []int64{9, 3, 4, 0, 7, 1, 2}
	for _, c := range []struct {
		places []int64
		i, k   int64
		want   []int64
	}{
		{[]int64{0, 1, 2}, 0, 2, []int64{2, 1, 0}}, {[]int64{0, 1, 2}, 2, 0, []int64{2, 1, 0}}, {[]int64{0, 1, 2}, 0, 1, []int64{1, 0, 2}},
		{[]int64{0, 1, 2}, 1, 1, []int64{0, 1, 2}}, {[]int64{0, 1, 2}, 0, 0, []int64{0, 1, 2}}, {[]int64{0, 1, 2}, 2, 2, []int64{0, 1, 2}},
		{[]int64{5}, 0, 0, []int64{5}}, {[]int64{9, 3}, 0, 1, []int64{3, 9}}, {[]int64{9, 3}, 1, 0, []int64{3, 9}},
		{seven, 0, 6, []int64{2, 3, 4, 0, 7, 1, 9}}, {seven, 6, 5, []int64{9, 3, 4, 0, 7, 2, 1}}, {seven, 6, 6, seven},
	} {
		places, code := impl.SwapLetters(smallBasket(), c.places, c.i, c.k)
		is(t, "exchanged", all(places, code), c.want, impl.OK)
	}
	for _, places := range [][]int64{{5}, {0, 1, 2}, seven} {
		n := int64(len(places))
		for _, i := range []int64{-1, n, n + 1, 7, -1 << 63, 1<<63 - 1} {
			for _, k := range []int64{0, n - 1, i} {
				got, code := impl.SwapLetters(smallBasket(), places, i, k)
				is(t, "no first letter", all(got, code), []int{}, impl.ErrRange)
				got, code = impl.SwapLetters(smallBasket(), places, k, i)
				is(t, "no second letter", all(got, code), []int{}, impl.ErrRange)
			}
		}
	}
}

func TestBestSwap(t *testing.T) {
	for _, c := range []struct {
		name          string
		basket        impl.Basket
		pairs         [][]int64
		places        []int64
		i, k, success int64
	}{
		{"one is best", bars(3), threePairs(), []int64{0, 1, 2}, 1, 2, impl.OK},
		{"one is best on other bars", smallBasket(), threePairs(), []int64{9, 8, 7}, 1, 2, impl.OK},
		{"the best one is not the first one", bars(4), pairsAt(4, [3]int64{2, 3, 1}, [3]int64{1, 2, 1}), []int64{0, 1, 2, 3}, 0, 2, impl.OK},
		{"the first one by i, not by k", sharp(), pairsAt(4, [3]int64{0, 1, 1}, [3]int64{2, 3, 1}), []int64{0, 1, 2, 3}, 0, 3, impl.OK},
		{"the first one by k", sharp(), pairsAt(4, [3]int64{0, 1, 1}), []int64{0, 1, 5, 9}, 0, 2, impl.OK},
		{"the first two of seven", steep(10), pairsAt(7, [3]int64{5, 0, 1}), []int64{8, 0, 3, 4, 5, 9, 2}, 0, 1, impl.OK},
		{"the last two of seven", steep(10), pairsAt(7, [3]int64{0, 5, 1}), []int64{0, 2, 3, 4, 5, 1, 9}, 5, 6, impl.OK},
		{"none is cheaper", bars(3), threePairs(), []int64{0, 2, 1}, 0, 0, impl.ErrNotFound},
		{"none is cheaper, the other way round", bars(3), threePairs(), []int64{2, 0, 1}, 0, 0, impl.ErrNotFound},
		{"none is cheaper, but not the best one", bars(4), stuckPairs(), []int64{0, 1, 2, 3}, 0, 0, impl.ErrNotFound},
		{"two letters", smallBasket(), square(2, 3), []int64{0, 1}, 0, 0, impl.ErrNotFound},
		{"no pairs", smallBasket(), square(7, 0), []int64{0, 1, 2, 3, 4, 5, 6}, 0, 0, impl.ErrNotFound},
		{"all of them cost the same", flat(), stuckPairs(), []int64{0, 1, 2, 3}, 0, 0, impl.ErrNotFound},
	} {
		i, k, code := impl.BestSwap(c.basket, c.pairs, c.places)
		is(t, c.name, all(i, k, code), c.i, c.k, c.success)
	}
}

func TestImproveArrange(t *testing.T) {
	for _, c := range []struct {
		name         string
		basket       impl.Basket
		pairs        [][]int64
		places, want []int64
	}{
		{"one exchange", bars(3), threePairs(), []int64{0, 1, 2}, []int64{0, 2, 1}},
		{"one exchange on other bars", smallBasket(), threePairs(), []int64{9, 8, 7}, []int64{9, 7, 8}},
		{"two exchanges", bars(4), pairsAt(4, [3]int64{1, 2, 2}), []int64{0, 1, 2, 3}, []int64{1, 0, 3, 2}},
		{"two exchanges, the best ones", bars(4), pairsAt(4, [3]int64{1, 3, 3}, [3]int64{2, 3, 1}), []int64{0, 1, 2, 3}, []int64{2, 0, 1, 3}},
		{"none is cheaper", bars(3), threePairs(), []int64{0, 2, 1}, []int64{0, 2, 1}},
		{"none is cheaper, the other way round", bars(3), threePairs(), []int64{2, 0, 1}, []int64{2, 0, 1}},
		{"none is cheaper, but not the best one", bars(4), stuckPairs(), []int64{0, 1, 2, 3}, []int64{0, 1, 2, 3}},
		{"two letters", smallBasket(), square(2, 3), []int64{8, 7}, []int64{8, 7}},
		{"no pairs", smallBasket(), square(7, 0), []int64{6, 1, 2, 3, 4, 5, 0}, []int64{6, 1, 2, 3, 4, 5, 0}},
		{"all of them cost the same", flat(), stuckPairs(), []int64{3, 1, 2, 0}, []int64{3, 1, 2, 0}},
	} {
		places, code := impl.ImproveArrange(c.basket, c.pairs, c.places)
		is(t, c.name, all(places, code), c.want, impl.OK)
	}
}

func TestMirrorArrange(t *testing.T) {
	for _, c := range []struct {
		basket       impl.Basket
		places, want []int64
	}{
		{bars(3), []int64{0, 1}, []int64{2, 1}}, {bars(3), []int64{1}, []int64{1}}, {bars(2), []int64{0, 1}, []int64{1, 0}},
		{smallBasket(), []int64{0, 9, 4}, []int64{9, 0, 5}}, {smallBasket(), []int64{9}, []int64{0}}, {smallBasket(), []int64{0}, []int64{9}},
		{smallBasket(), []int64{9, 3, 4, 0, 7, 1, 2}, []int64{0, 6, 5, 9, 2, 8, 7}}, {bars(7), []int64{0, 1, 2, 3, 4, 5, 6}, []int64{6, 5, 4, 3, 2, 1, 0}},
		{bars(60), []int64{59, 0, 30}, []int64{0, 59, 29}},
	} {
		places, code := impl.MirrorArrange(c.basket, c.places)
		is(t, "the other way round", all(places, code), c.want, impl.OK)
	}
}

// arrangeCallsReturn checks the code of all functions that take a basket, a table of pairs and an arrangement.
func arrangeCallsReturn(t *testing.T, b impl.Basket, pairs [][]int64, places []int64, want int64) {
	t.Helper()
	cost, code := impl.ArrangeCost(b, pairs, places)
	is(t, "ArrangeCost", all(cost, code), 0, want)
	i, k, code := impl.BestSwap(b, pairs, places)
	is(t, "BestSwap", all(i, k, code), 0, 0, want)
	better, code := impl.ImproveArrange(b, pairs, places)
	is(t, "ImproveArrange", all(better, code), []int{}, want)
}

// placeCallsReturn checks the code of all functions that take a basket and an arrangement.
func placeCallsReturn(t *testing.T, b impl.Basket, places []int64, want int64) {
	t.Helper()
	for _, i := range []int64{0, -1, 10} {
		swapped, code := impl.SwapLetters(b, places, i, 0)
		is(t, "SwapLetters", all(swapped, code), []int{}, want)
	}
	mirror, code := impl.MirrorArrange(b, places)
	is(t, "MirrorArrange", all(mirror, code), []int{}, want)
}

func TestWrongPlaces(t *testing.T) {
	for _, places := range wrongPlaces() {
		placeCallsReturn(t, smallBasket(), places, impl.ErrRange)
		for letters := 2; letters <= 7; letters++ {
			arrangeCallsReturn(t, smallBasket(), square(letters, 0), places, impl.ErrRange)
		}
	}
	// These are arrangements, but of other numbers of letters, or on other baskets.
	for _, places := range [][]int64{{0}, {0, 1}, {0, 1, 2, 3}, {0, 1, 2, 3, 4, 5, 6}} {
		arrangeCallsReturn(t, smallBasket(), threePairs(), places, impl.ErrRange)
	}
	arrangeCallsReturn(t, bars(3), threePairs(), []int64{0, 1, 3}, impl.ErrRange)
	arrangeCallsReturn(t, bars(2), threePairs(), []int64{0, 1, 2}, impl.ErrRange)
	placeCallsReturn(t, bars(3), []int64{0, 1, 3}, impl.ErrRange)
	_, code := impl.ArrangeCost(bars(4), threePairs(), []int64{0, 1, 3})
	is(t, "the last bar", all(code), impl.OK)
}

func TestInvalidBasketsAndPairsComeFirst(t *testing.T) {
	lists := append(wrongPlaces(), []int64{0, 1, 2}, []int64{0, 1})
	see := func(b impl.Basket, pairs [][]int64) {
		t.Helper()
		for _, places := range lists {
			arrangeCallsReturn(t, b, pairs, places, impl.ErrInvalid)
		}
		places, cost, code := impl.BestArrange(b, pairs)
		is(t, "BestArrange", all(places, cost, code), []int{}, 0, impl.ErrInvalid)
		bound, code := impl.ArrangeBound(b, pairs)
		is(t, "ArrangeBound", all(bound, code), 0, impl.ErrInvalid)
	}
	for _, b := range wrongBaskets() {
		see(b, threePairs())
		see(b, square(8, 0))
		for _, places := range lists {
			placeCallsReturn(t, b, places, impl.ErrInvalid)
		}
	}
	for _, pairs := range wrongTables() {
		see(smallBasket(), pairs)
		see(bars(2), pairs)
	}
	see(bars(2), pairsAt(3, [3]int64{2, 2, 1001})) // there are too few bars as well
}
