package tests

import (
	"math/rand"
	"slices"
	"strings"
	"testing"

	"loop.example/g01045/impl"
)

// waitSlowly counts the places that two bars are too near.
func waitSlowly(b impl.Basket, first, second int64) int64 {
	wait := int64(0)
	for jamsSlowly(b, impl.Stroke{Bar: first}, impl.Stroke{Bar: second, Tick: wait}) {
		wait++
	}
	return wait
}

// costSlowly adds the ticks of each single pair.
func costSlowly(b impl.Basket, pairs [][]int64, places []int64) int64 {
	cost := int64(0)
	for i, row := range pairs {
		for k, n := range row {
			for range n {
				cost += waitSlowly(b, places[i], places[k])
			}
		}
	}
	return cost
}

// arrangementsSlowly counts through all lists of letters numbers less than letters, and returns those with different numbers.
func arrangementsSlowly(letters int) [][]int64 {
	var list [][]int64
	places := make([]int64, letters)
	for {
		if len(slices.Compact(slices.Sorted(slices.Values(places)))) == letters {
			list = append(list, slices.Clone(places))
		}
		at := letters - 1
		for at >= 0 && places[at] == int64(letters-1) {
			places[at] = 0
			at--
		}
		if at < 0 {
			return list
		}
		places[at]++
	}
}

// exchange returns places with two letters exchanged, built letter by letter.
func exchange(places []int64, i, k int) []int64 {
	var list []int64
	for at := range places {
		switch at {
		case i:
			list = append(list, places[k])
		case k:
			list = append(list, places[i])
		default:
			list = append(list, places[at])
		}
	}
	return list
}

// exchangeSlowly prices all exchanges and sorts them by their costs, by i and by k; false if the first one is not cheaper.
func exchangeSlowly(b impl.Basket, pairs [][]int64, places []int64) (int64, int64, bool) {
	var list [][]int64
	for i := range places {
		for k := range i {
			list = append(list, []int64{costSlowly(b, pairs, exchange(places, i, k)), int64(k), int64(i)})
		}
	}
	slices.SortFunc(list, slices.Compare)
	best := list[0]
	return best[1], best[2], best[0] < costSlowly(b, pairs, places)
}

// drawPairs returns a table with small numbers, many of them zero, so that costs are often equal.
func drawPairs(r *rand.Rand, letters int) [][]int64 {
	rows := square(letters, 0)
	for _, row := range rows {
		for i := range row {
			row[i] = max(0, r.Int63n(7)-3)
		}
	}
	return rows
}

// drawArrange returns a basket with at least as many bars as letters, and an arrangement on it.
func drawArrange(r *rand.Rand, letters int) (impl.Basket, []int64) {
	b := drawBasket(r)
	b.Bars = int64(letters) + r.Int63n(4)
	var places []int64
	for _, p := range r.Perm(int(b.Bars))[:letters] {
		places = append(places, int64(p))
	}
	return b, places
}

// Promise 5: an arrangement costs as much the other way round.
func TestArrangementsCostAsMuchTheOtherWayRound(t *testing.T) {
	r := rand.New(rand.NewSource(9))
	for range 4000 {
		letters := 2 + r.Intn(6)
		b, places := drawArrange(r, letters)
		pairs := drawPairs(r, letters)
		cost, code := impl.ArrangeCost(b, pairs, places)
		is(t, "the cost", all(cost, code), costSlowly(b, pairs, places), impl.OK)
		mirror, code := impl.MirrorArrange(b, places)
		if code != impl.OK || len(mirror) != letters {
			t.Fatal(b, places, mirror, code)
		}
		for i, p := range mirror {
			is(t, "a mirrored bar", all(p+places[i]), b.Bars-1)
		}
		again, code := impl.ArrangeCost(b, pairs, mirror)
		is(t, "the cost the other way round", all(again, code), cost, impl.OK)
		back, code := impl.MirrorArrange(b, mirror)
		is(t, "round twice", all(back, code), places, impl.OK)
		bound, code := impl.ArrangeBound(b, pairs)
		if code != impl.OK || bound > cost {
			t.Fatal("an arrangement falls below the bound", b, pairs, places, bound, cost)
		}
	}
}

// Promise 5: improving an arrangement never costs more.
func TestImprovingNeverCostsMore(t *testing.T) {
	r := rand.New(rand.NewSource(10))
	var done [4]int // how many arrangements were improved by none, one, two or more exchanges
	for range 2000 {
		letters := 2 + r.Intn(6)
		b, places := drawArrange(r, letters)
		pairs := drawPairs(r, letters)
		before, _ := impl.ArrangeCost(b, pairs, places)
		better, code := impl.ImproveArrange(b, pairs, places)
		cost, costCode := impl.ArrangeCost(b, pairs, better)
		if code != impl.OK || costCode != impl.OK || cost > before {
			t.Fatal(b, pairs, places, better, before, cost)
		}
		want, steps := places, 0
		for {
			i, k, found := exchangeSlowly(b, pairs, want)
			toldI, toldK, code := impl.BestSwap(b, pairs, want)
			if !found {
				is(t, "no exchange", all(toldI, toldK, code), 0, 0, impl.ErrNotFound)
				break
			}
			is(t, "an exchange", all(toldI, toldK, code), i, k, impl.OK)
			next, code := impl.SwapLetters(b, want, k, i)
			want = exchange(want, int(i), int(k))
			is(t, "letters exchanged", all(next, code), want, impl.OK)
			steps++
		}
		is(t, "all exchanges", all(better), want)
		done[min(steps, 3)]++
	}
	if slices.Min(done[:]) < 100 {
		t.Fatal("too few arrangements of a kind", done)
	}
}

// Chapter 5: of all arrangements on the first bars, the first one with the least cost is told.
func TestNoArrangementBeforeOrBelowTheBestOne(t *testing.T) {
	r := rand.New(rand.NewSource(11))
	lists := map[int][][]int64{2: arrangementsSlowly(2), 3: arrangementsSlowly(3), 4: arrangementsSlowly(4), 5: arrangementsSlowly(5)}
	stuck := 0
	for range 1500 {
		letters := 2 + r.Intn(4)
		b, _ := drawArrange(r, letters)
		pairs := drawPairs(r, letters)
		var want []int64
		least := int64(0)
		for _, places := range lists[letters] {
			if cost := costSlowly(b, pairs, places); want == nil || cost < least {
				want, least = places, cost
			}
		}
		best, cost, code := impl.BestArrange(b, pairs)
		is(t, "the best arrangement", all(best, cost, code), want, least, impl.OK)
		_, _, code = impl.BestSwap(b, pairs, best)
		is(t, "no exchange improves it", all(code), impl.ErrNotFound)
		improved, _ := impl.ImproveArrange(b, pairs, lists[letters][0])
		if cost, _ := impl.ArrangeCost(b, pairs, improved); cost > least {
			stuck++
		}
	}
	if stuck < 20 {
		t.Fatal("exchanges lead to the best arrangement nearly always", stuck)
	}
}

// Seven letters have 5040 arrangements, and all of them are looked at.
func TestBestArrangeOfSevenLetters(t *testing.T) {
	r := rand.New(rand.NewSource(12))
	list := arrangementsSlowly(7)
	if len(list) != 5040 {
		t.Fatal(len(list))
	}
	for range 5 {
		b, _ := drawArrange(r, 7)
		pairs := drawPairs(r, 7)
		var want []int64
		least := int64(0)
		for _, places := range list {
			if cost, _ := impl.ArrangeCost(b, pairs, places); want == nil || cost < least {
				want, least = places, cost
			}
		}
		best, cost, code := impl.BestArrange(b, pairs)
		is(t, "the best of seven", all(best, cost, code), want, least, impl.OK)
	}
}

// Chapter 5: the pairs of a text cost what its letters must wait for those before them.
func TestPairsOfTextsCostTheirWaits(t *testing.T) {
	r := rand.New(rand.NewSource(13))
	for range 2000 {
		letters := "abcdefg"[:2+r.Intn(6)]
		b, places := drawArrange(r, len(letters))
		text := drawText(r, "abcdefg ", 60)
		pairs, code := impl.PairsOf(letters, text)
		if code != impl.OK || !impl.ValidPairs(pairs) {
			t.Fatal(letters, text, pairs, code)
		}
		want := int64(0)
		for i, first := range letters {
			for k, second := range letters {
				for at := range text {
					if strings.HasPrefix(text[at:], string([]rune{first, second})) {
						want += waitSlowly(b, places[i], places[k])
					}
				}
			}
		}
		cost, code := impl.ArrangeCost(b, pairs, places)
		is(t, "the cost of a text", all(cost, code), want, impl.OK)
	}
}

// Promise 1 for chapter 5.
func TestArrangementsArePure(t *testing.T) {
	n := oddNumbers()
	baskets := append(wrongBaskets(), smallBasket(), bars(2), bars(3), sharp(), largest(),
		impl.Basket{Bars: 1<<63 - 1, Rise: 1<<63 - 1, Fall: 1<<63 - 1, Clear: 1<<63 - 1, Near: 1<<63 - 1})
	tables := append(wrongTables(), threePairs(), stuckPairs(), square(2, 1000), square(7, 1000))
	lists := append(wrongPlaces(), []int64{0}, []int64{0, 1}, []int64{0, 1, 2}, []int64{2, 0, 1}, []int64{9, 8, 7}, []int64{0, 1, 2, 3}, []int64{6, 5, 4, 3, 2, 1, 0})
	for _, x := range n {
		tables = append(tables, square(3, x), pairsAt(3, [3]int64{1, 2, x}))
		lists = append(lists, []int64{x}, []int64{0, x, 1}, []int64{x, x, x})
	}
	for _, b := range baskets {
		for _, p := range tables {
			tableCallsArePure(t, b, p)
			for _, l := range lists {
				arrangeCallsArePure(t, b, p, l)
			}
		}
		for _, l := range lists {
			placeCallsArePure(t, b, l)
		}
	}
	texts := append(oddTexts(), "abcdefg", "abcdefgh", " ~", "aabab", strings.Repeat("ab", 2000), strings.Repeat("a", 4001))
	for _, letters := range texts {
		for _, text := range texts {
			isCoded(t, "PairsOf", func() []any { pairs, code := impl.PairsOf(letters, text); return all(pairs, code) })
		}
	}
}

// tableCallsArePure checks the functions that take a table of pairs and no arrangement.
func tableCallsArePure(t *testing.T, b impl.Basket, p [][]int64) {
	t.Helper()
	pairs, same := watchedTable(p, 1)
	isPure(t, "ValidPairs", func() []any { return all(impl.ValidPairs(pairs)) }, same)
	isCoded(t, "BestArrange", func() []any {
		places, cost, code := impl.BestArrange(b, pairs)
		return all(places, cost, code)
	}, same)
	isCoded(t, "ArrangeBound", func() []any { bound, code := impl.ArrangeBound(b, pairs); return all(bound, code) }, same)
}

// arrangeCallsArePure checks the functions that take a table of pairs and an arrangement.
func arrangeCallsArePure(t *testing.T, b impl.Basket, p [][]int64, l []int64) {
	t.Helper()
	pairs, samePairs := watchedTable(p, 1)
	places, samePlaces := watched(l)
	isCoded(t, "ArrangeCost", func() []any { cost, code := impl.ArrangeCost(b, pairs, places); return all(cost, code) }, samePairs, samePlaces)
	isCoded(t, "BestSwap", func() []any {
		i, k, code := impl.BestSwap(b, pairs, places)
		return all(i, k, code)
	}, samePairs, samePlaces)
	isCoded(t, "ImproveArrange", func() []any {
		better, code := impl.ImproveArrange(b, pairs, places)
		return all(better, code)
	}, samePairs, samePlaces)
}

// placeCallsArePure checks the functions that take an arrangement only.
func placeCallsArePure(t *testing.T, b impl.Basket, l []int64) {
	t.Helper()
	places, same := watched(l)
	isCoded(t, "MirrorArrange", func() []any { mirror, code := impl.MirrorArrange(b, places); return all(mirror, code) }, same)
	for _, i := range oddNumbers() {
		for _, k := range []int64{0, 1, i, -i} {
			isCoded(t, "SwapLetters", func() []any { list, code := impl.SwapLetters(b, places, i, k); return all(list, code) }, same)
		}
	}
}

// Promise 1: the rows of a table share no memory with one another.
func TestRowsOfPairsAreApart(t *testing.T) {
	pairs, _ := impl.PairsOf("abc", "aabbcca")
	want := [][]int64{{1, 1, 0}, {0, 1, 1}, {1, 0, 1}}
	for i, row := range pairs {
		for k := range row[:cap(row)] {
			row[:cap(row)][k] = -1
		}
		for k := i + 1; k < len(pairs); k++ {
			is(t, "a row behind", all(pairs[k]), want[k])
		}
	}
}
