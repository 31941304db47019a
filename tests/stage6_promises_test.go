package tests

import (
	"maps"
	"math/rand"
	"slices"
	"strings"
	"testing"

	"loop.example/g01045/impl"
)

// rowsSlowly goes from row to row.
func rowsSlowly(from, to int64) int64 {
	switch {
	case from < to:
		return 1 + rowsSlowly(from+1, to)
	case from > to:
		return 1 + rowsSlowly(from-1, to)
	}
	return 0
}

// strokeSlowly applies the document's rules one after the other to a stroke behind another one.
func strokeSlowly(list []impl.Place, before, now int) int64 {
	a, b := list[before], list[now]
	cost := b.Effort
	if before != now && a.Finger == b.Finger {
		cost += 10 + 5*rowsSlowly(a.Row, b.Row)
	}
	hands := "llllrrrr"
	if a.Finger != b.Finger && hands[a.Finger] == hands[b.Finger] {
		cost += 2
	}
	return cost
}

// textSlowly returns the costs of all strokes of a text.
func textSlowly(list []impl.Place, layout, text string) []int64 {
	var costs []int64
	for i := range text {
		now := strings.IndexByte(layout, text[i])
		if i == 0 {
			costs = append(costs, list[now].Effort)
			continue
		}
		costs = append(costs, strokeSlowly(list, strings.IndexByte(layout, text[i-1]), now))
	}
	return costs
}

func sum(list []int64) int64 {
	total := int64(0)
	for _, n := range list {
		total += n
	}
	return total
}

// drawBoard returns a board on which places are often alike, or have the same finger.
func drawBoard(r *rand.Rand) []impl.Place {
	fingers, efforts := 1+r.Int63n(8), 1+r.Int63n(51)
	if r.Intn(2) == 0 {
		efforts = 1 + r.Int63n(4)
	}
	var list []impl.Place
	for range 1 + r.Intn(6) {
		list = append(list, place(7-r.Int63n(fingers), r.Int63n(4), r.Int63n(efforts)))
		if len(list) > 1 && r.Intn(4) == 0 {
			list[len(list)-1] = list[r.Intn(len(list))]
		}
	}
	return list
}

// drawLettering returns a layout of a board: different bytes in any order.
func drawLettering(r *rand.Rand, list []impl.Place) string {
	var bytes []byte
	for _, i := range r.Perm(95)[:len(list)] {
		bytes = append(bytes, byte(32+i))
	}
	return string(bytes)
}

// Promise 7: the cost of a text is that of its strokes, of which the first one costs its effort only.
func TestTextsCostTheirStrokes(t *testing.T) {
	r := rand.New(rand.NewSource(16))
	alike := 0
	for range 6000 {
		list := drawBoard(r)
		layout := drawLettering(r, list)
		text := drawText(r, layout, 1+r.Intn(40)*r.Intn(11))
		costs := textSlowly(list, layout, text)
		want := int64(0)
		for i := range text {
			if i == 0 {
				want = list[strings.IndexByte(layout, text[0])].Effort
				continue
			}
			before, now := strings.IndexByte(layout, text[i-1]), strings.IndexByte(layout, text[i])
			stroke, code := impl.StrokeCost(list, int64(before), int64(now))
			is(t, "a stroke", all(stroke, code), costs[i], impl.OK)
			want += stroke
			if before != now && list[before] == list[now] {
				alike++
			}
		}
		cost, code := impl.TextCost(list, layout, text)
		is(t, "the cost of a text", all(cost, code), want, impl.OK)
		dearest, code := impl.DearestPair(list, layout, text)
		if len(text) < 2 {
			is(t, "no pair", all(dearest, code), 0, impl.ErrNotFound)
			continue
		}
		is(t, "the dearest pair", all(dearest, code), 1+slices.Index(costs[1:], slices.Max(costs[1:])), impl.OK)
	}
	if alike < 1000 {
		t.Fatal("too few strokes at another place that is alike", alike)
	}
}

// Chapter 7: each stroke is done by one finger of one hand.
func TestStrokesOfFingersAndHands(t *testing.T) {
	r := rand.New(rand.NewSource(17))
	for range 3000 {
		list := drawBoard(r)
		layout := drawLettering(r, list)
		text := drawText(r, layout, 400)
		var hands string
		want := make([]int64, 8)
		for _, letter := range []byte(text) {
			finger := list[strings.IndexByte(layout, letter)].Finger
			want[finger]++
			hands += "llllrrrr"[finger : finger+1]
		}
		fingers, code := impl.FingersOf(list, layout, text)
		is(t, "fingers", all(fingers, code), want, impl.OK)
		left, right, code := impl.HandsOf(list, layout, text)
		is(t, "hands", all(left, right, code), sum(want[:4]), sum(want[4:]), impl.OK)
		is(t, "all strokes", all(left+right), len(text))
		changes, code := impl.AlternationsOf(list, layout, text)
		is(t, "changes", all(changes, code), strings.Count(hands, "lr")+strings.Count(hands, "rl"), impl.OK)
	}
}

// Promise 7: no layout is cheaper than the best one, and none that is as cheap comes before it.
func TestNoLayoutBeforeOrBelowTheBestOne(t *testing.T) {
	r := rand.New(rand.NewSource(18))
	orders := map[int][][]int64{}
	for n := range 6 {
		orders[n+1] = arrangementsSlowly(n + 1)
	}
	several := 0
	for i := range 700 {
		list := drawBoard(r)
		letters := drawLettering(r, list)
		text := drawText(r, letters, []int{2, 10, 60}[i%3])
		cheapest := map[int64][]string{}
		for _, order := range orders[len(list)] {
			var layout string
			for _, k := range order {
				layout += letters[k : k+1]
			}
			cost := sum(textSlowly(list, layout, text))
			cheapest[cost] = append(cheapest[cost], layout)
		}
		least := slices.Min(slices.Collect(maps.Keys(cheapest)))
		want := slices.Min(cheapest[least])
		if len(cheapest[least]) > 1 && len(cheapest) > 1 {
			several++
		}
		best, cost, code := impl.BestLayout(list, letters, text)
		is(t, "the best layout", all(best, cost, code), want, least, impl.OK)
		told, code := impl.TextCost(list, best, text)
		is(t, "its cost", all(told, code), cost, impl.OK)
		again, cost, code := impl.BestLayout(list, drawOrder(r, letters), text)
		is(t, "of letters in another order", all(again, cost, code), want, least, impl.OK)
	}
	if several < 100 {
		t.Fatal("too few texts that cost as much by several layouts", several)
	}
}

// drawOrder returns the bytes of a text in another order.
func drawOrder(r *rand.Rand, text string) string {
	bytes := []byte(text)
	r.Shuffle(len(bytes), func(i, k int) { bytes[i], bytes[k] = bytes[k], bytes[i] })
	return string(bytes)
}

// Promise 7 at the limits: all layouts of six letters, for texts of 400 bytes.
func TestBestLayoutOfLongTexts(t *testing.T) {
	for _, text := range []string{strings.Repeat("a", 400), strings.Repeat("ab", 200), strings.Repeat("fedcba", 66) + "fedc", strings.Repeat("abacadaeaf", 40)} {
		for _, list := range [][]impl.Place{fullBoard(), {place(3, 3, 50), place(3, 0, 50), place(3, 3, 49), place(3, 0, 49), place(3, 2, 50), place(3, 1, 50)}} {
			best, least, code := impl.BestLayout(list, "fbdace", text)
			want, cheapest := "", int64(-1)
			for _, order := range arrangementsSlowly(6) { // by ascending layouts
				var layout []byte
				for _, k := range order {
					layout = append(layout, "abcdef"[k])
				}
				if cost, _ := impl.TextCost(list, string(layout), text); cheapest < 0 || cost < cheapest {
					want, cheapest = string(layout), cost
				}
			}
			is(t, "the best layout of a long text", all(best, least, code), want, cheapest, impl.OK)
		}
	}
}

// Promise 1 for chapter 7.
func TestFingersArePure(t *testing.T) {
	boards := append(wrongBoards(), examplePlaces(), fullBoard(), fullBoard()[:3], []impl.Place{place(0, 0, 0)}, []impl.Place{place(7, 3, 50)})
	layouts := append(wrongLetterings(), "a", "ab", "ba", "abc", "cab", "fedcba", " ~", "~ !")
	for _, n := range oddNumbers() {
		boards = append(boards, []impl.Place{place(n, n, n)}, []impl.Place{place(0, n, 0), place(1, 0, n)})
	}
	texts := slices.Concat([]string{"aab", "fed", "abc", strings.Repeat("ab", 200), strings.Repeat("a", 401)}, oddTexts())
	for _, b := range boards {
		list, same := watched(b)
		isPure(t, "ValidBoard", func() []any { return all(impl.ValidBoard(list)) }, same)
		for _, before := range oddNumbers() {
			for _, now := range []int64{before, 0, 1, 5, -before} {
				isCoded(t, "StrokeCost", func() []any { cost, code := impl.StrokeCost(list, before, now); return all(cost, code) }, same)
			}
		}
		for i, layout := range layouts {
			for _, text := range []string{"", layout, texts[i%len(texts)], "a"} {
				typingIsPure(t, list, layout, text, same)
			}
		}
	}
	for _, b := range [][]impl.Place{examplePlaces(), {place(4, 2, 3)}} {
		list, same := watched(b)
		for _, layout := range append(oddTexts(), "ba") {
			for _, text := range texts {
				typingIsPure(t, list, layout, text, same)
			}
		}
	}
}

// typingIsPure checks the functions that take a board, a layout and a text.
func typingIsPure(t *testing.T, list []impl.Place, layout, text string, same func() bool) {
	t.Helper()
	isCoded(t, "TextCost", func() []any { cost, code := impl.TextCost(list, layout, text); return all(cost, code) }, same)
	isCoded(t, "BestLayout", func() []any {
		best, cost, code := impl.BestLayout(list, layout, text)
		return all(best, cost, code)
	}, same)
	isCoded(t, "HandsOf", func() []any {
		left, right, code := impl.HandsOf(list, layout, text)
		return all(left, right, code)
	}, same)
	isCoded(t, "FingersOf", func() []any { fingers, code := impl.FingersOf(list, layout, text); return all(fingers, code) }, same)
	isCoded(t, "AlternationsOf", func() []any { n, code := impl.AlternationsOf(list, layout, text); return all(n, code) }, same)
	isCoded(t, "DearestPair", func() []any { at, code := impl.DearestPair(list, layout, text); return all(at, code) }, same)
}
