package tests

import (
	"slices"
	"testing"

	"loop.example/g01045/impl"
)

// smallBasket has the bars of the document's example: bars side by side wait 4
// ticks, bars at a distance of 2 wait 3, more distant ones 2, and each 5 for itself.
func smallBasket() impl.Basket {
	return impl.Basket{Bars: 10, Rise: 3, Fall: 2, Clear: 2, Near: 3}
}

// wrongBaskets returns baskets that are not valid, each for one reason.
func wrongBaskets() []impl.Basket {
	return []impl.Basket{{},
		{Bars: 1, Rise: 3, Fall: 2, Clear: 2, Near: 3}, {Bars: 61, Rise: 3, Fall: 2, Clear: 2, Near: 3}, {Bars: -10, Rise: 3, Fall: 2, Clear: 2, Near: 3},
		{Bars: 10, Rise: 0, Fall: 2, Clear: 2, Near: 3}, {Bars: 10, Rise: 101, Fall: 2, Clear: 2, Near: 3},
		{Bars: 10, Rise: 3, Fall: 0, Clear: 2, Near: 3}, {Bars: 10, Rise: 3, Fall: 101, Clear: 2, Near: 3},
		{Bars: 10, Rise: 3, Fall: 2, Clear: 0, Near: 3}, {Bars: 10, Rise: 3, Fall: 2, Clear: 101, Near: 3},
		{Bars: 10, Rise: 3, Fall: 2, Clear: 2, Near: -1}, {Bars: 10, Rise: 3, Fall: 2, Clear: 2, Near: 101}}
}

// strokes makes strokes from pairs of a bar and a tick.
func strokes(pairs ...[2]int64) []impl.Stroke {
	var list []impl.Stroke
	for _, p := range pairs {
		list = append(list, impl.Stroke{Bar: p[0], Tick: p[1]})
	}
	return list
}

// wrongStrokes returns lists that are no strokes of smallBasket.
func wrongStrokes() [][]impl.Stroke {
	return [][]impl.Stroke{strokes([2]int64{-1, 0}), strokes([2]int64{10, 0}), strokes([2]int64{0, -1}), strokes([2]int64{0, 1000001}),
		strokes([2]int64{1, 2}, [2]int64{2, 1}), strokes([2]int64{1, 0}, [2]int64{2, 5}, [2]int64{3, 4}), strokes([2]int64{1, 0}, [2]int64{10, 5}),
		strokes([2]int64{1, 0}, [2]int64{2, 1000001}), make([]impl.Stroke, 61)}
}

func TestValidBasket(t *testing.T) {
	if impl.MaxBars != 60 || impl.MaxTicks != 100 || impl.MaxTick != 1000000 || impl.MaxStrokes != 60 {
		t.Error(impl.MaxBars, impl.MaxTicks, impl.MaxTick, impl.MaxStrokes)
	}
	for _, b := range []impl.Basket{smallBasket(), {Bars: 2, Rise: 1, Fall: 1, Clear: 1}, {Bars: 60, Rise: 100, Fall: 100, Clear: 100, Near: 100}} {
		if !impl.ValidBasket(b) || !impl.ValidStrokes(b, nil) {
			t.Errorf("%+v is valid", b)
		}
	}
	for _, b := range wrongBaskets() {
		if impl.ValidBasket(b) || impl.ValidStrokes(b, nil) {
			t.Errorf("%+v is not valid", b)
		}
	}
}

func TestValidStrokes(t *testing.T) {
	for _, list := range [][]impl.Stroke{nil, {}, strokes([2]int64{0, 0}), strokes([2]int64{9, 1000000}), make([]impl.Stroke, 60),
		strokes([2]int64{9, 4}, [2]int64{0, 4}, [2]int64{0, 4}, [2]int64{3, 5}), strokes([2]int64{5, 1000000}, [2]int64{5, 1000000})} {
		if !impl.ValidStrokes(smallBasket(), list) {
			t.Errorf("%v are strokes", list)
		}
	}
	for _, list := range wrongStrokes() {
		if impl.ValidStrokes(smallBasket(), list) {
			t.Errorf("%v are no strokes", list)
		}
	}
}

func TestMustWait(t *testing.T) {
	wide := impl.Basket{Bars: 60, Rise: 100, Fall: 100, Clear: 100, Near: 100}
	quick := impl.Basket{Bars: 2, Rise: 1, Fall: 1, Clear: 7}
	for _, c := range []struct {
		basket        impl.Basket
		first, second int64
		want          int64
	}{{smallBasket(), 4, 5, 4}, {smallBasket(), 4, 6, 3}, {smallBasket(), 4, 7, 2}, {smallBasket(), 0, 9, 2}, {smallBasket(), 4, 4, 5}, {smallBasket(), 0, 0, 5}, {smallBasket(), 9, 9, 5},
		{wide, 0, 1, 199}, {wide, 0, 59, 141}, {wide, 59, 59, 200}, {quick, 0, 1, 7}, {quick, 1, 1, 2},
		{impl.Basket{Bars: 2, Rise: 1, Fall: 1, Clear: 1, Near: 1}, 0, 1, 1}, {impl.Basket{Bars: 2, Rise: 1, Fall: 1, Clear: 1, Near: 2}, 0, 1, 2}} {
		ticks, code := impl.MustWait(c.basket, c.first, c.second)
		is(t, "there", all(ticks, code), c.want, impl.OK)
		ticks, code = impl.MustWait(c.basket, c.second, c.first)
		is(t, "back", all(ticks, code), c.want, impl.OK)
	}
	for _, bar := range []int64{-1, 10, -1 << 63, 1<<63 - 1} {
		for _, other := range []int64{0, 9, bar, -bar} {
			ticks, code := impl.MustWait(smallBasket(), bar, other)
			is(t, "no first bar", all(ticks, code), 0, impl.ErrRange)
			ticks, code = impl.MustWait(smallBasket(), other, bar)
			is(t, "no second bar", all(ticks, code), 0, impl.ErrRange)
		}
	}
	for _, b := range wrongBaskets() {
		for _, bar := range []int64{0, -1} {
			ticks, code := impl.MustWait(b, bar, 0)
			is(t, "no basket", all(ticks, code), 0, impl.ErrInvalid)
		}
	}
}

func TestJams(t *testing.T) {
	for _, c := range []struct {
		name             string
		list             []impl.Stroke
		i, k, code, jams int64
		printed          []int64
	}{
		{"no strokes", nil, 0, 0, impl.ErrNotFound, 0, nil},
		{"one stroke", strokes([2]int64{1, 7}), 0, 0, impl.ErrNotFound, 0, []int64{0}},
		{"a bar for itself", strokes([2]int64{4, 10}, [2]int64{4, 15}), 0, 0, impl.ErrNotFound, 0, []int64{0, 1}},
		{"a bar too early for itself", strokes([2]int64{4, 10}, [2]int64{4, 14}), 1, 0, impl.OK, 1, []int64{0}},
		{"side by side", strokes([2]int64{4, 10}, [2]int64{3, 14}), 0, 0, impl.ErrNotFound, 0, []int64{0, 1}},
		{"side by side, too early", strokes([2]int64{4, 10}, [2]int64{3, 13}), 1, 0, impl.OK, 1, []int64{0}},
		{"just at Near", strokes([2]int64{4, 10}, [2]int64{7, 12}), 0, 0, impl.ErrNotFound, 0, []int64{0, 1}},
		{"just at Near, too early", strokes([2]int64{4, 10}, [2]int64{7, 11}), 1, 0, impl.OK, 1, []int64{0}},
		{"one less than Near", strokes([2]int64{4, 10}, [2]int64{6, 13}), 0, 0, impl.ErrNotFound, 0, []int64{0, 1}},
		{"one less than Near, too early", strokes([2]int64{4, 10}, [2]int64{6, 12}), 1, 0, impl.OK, 1, []int64{0}},
		{"equal ticks", strokes([2]int64{0, 3}, [2]int64{9, 3}, [2]int64{0, 3}), 1, 0, impl.OK, 3, []int64{0}},
		{"not the stroke before", strokes([2]int64{4, 0}, [2]int64{9, 2}, [2]int64{4, 4}), 2, 0, impl.OK, 1, []int64{0, 1}},
		{"the first of those in front", strokes([2]int64{0, 0}, [2]int64{5, 5}, [2]int64{8, 7}, [2]int64{5, 8}, [2]int64{6, 8}), 3, 1, impl.OK, 5, []int64{0, 1, 2}},
		{"a stopped stroke stops none", strokes([2]int64{4, 0}, [2]int64{5, 3}, [2]int64{6, 6}), 1, 0, impl.OK, 2, []int64{0, 2}},
		{"the last ticks", strokes([2]int64{4, 999995}, [2]int64{4, 1000000}), 0, 0, impl.ErrNotFound, 0, []int64{0, 1}},
		{"all at once", make([]impl.Stroke, 60), 1, 0, impl.OK, 1770, []int64{0}},
	} {
		i, k, code := impl.FirstJam(smallBasket(), c.list)
		is(t, "FirstJam, "+c.name, all(i, k, code), c.i, c.k, c.code)
		n, code := impl.CountJams(smallBasket(), c.list)
		is(t, "CountJams, "+c.name, all(n, code), c.jams, impl.OK)
		printed, code := impl.PrintedOf(smallBasket(), c.list)
		is(t, "PrintedOf, "+c.name, all(printed, code), c.printed, impl.OK)
	}
}

func TestInTheAir(t *testing.T) {
	list := strokes([2]int64{7, 2}, [2]int64{1, 4}, [2]int64{7, 5}, [2]int64{0, 5})
	for tick, want := range map[int64][]int64{0: nil, 1: nil, 2: {7}, 3: {7}, 4: {1, 7}, 5: {0, 1, 7}, 6: {0, 1, 7}, 7: {0, 1, 7}, 8: {0, 1, 7}, 9: {0, 7}, 10: nil, 1000000: nil} {
		bars, code := impl.InTheAir(smallBasket(), list, tick)
		is(t, "in the air", all(tick, bars, code), tick, want, impl.OK)
	}
	for tick, want := range map[int64][]int64{6: {7}, 7: nil, 8: nil} {
		bars, code := impl.InTheAir(smallBasket(), list[:1], tick)
		is(t, "a bar comes to rest", all(tick, bars, code), tick, want, impl.OK)
	}
	bars, code := impl.InTheAir(smallBasket(), strokes([2]int64{9, 1000000}), 1000000)
	is(t, "the last tick", all(bars, code), []int64{9}, impl.OK)
	bars, code = impl.InTheAir(smallBasket(), nil, 0)
	is(t, "no strokes", all(bars, code), []int64{}, impl.OK)
	full := impl.Basket{Bars: 60, Rise: 100, Fall: 100, Clear: 1}
	var every []impl.Stroke
	for bar := range int64(60) {
		every = append(every, impl.Stroke{Bar: 59 - bar, Tick: bar})
	}
	bars, code = impl.InTheAir(full, every, 199)
	if code != impl.OK || len(bars) != 60 || !slices.IsSorted(bars) {
		t.Error("all bars are in the air", bars, code)
	}
	for _, tick := range []int64{-1, 1000001, -1 << 63, 1<<63 - 1} {
		bars, code = impl.InTheAir(smallBasket(), list, tick)
		is(t, "no tick", all(bars, code), []int64{}, impl.ErrRange)
	}
}

func TestInvalidStrokesComeFirst(t *testing.T) {
	see := func(b impl.Basket, list []impl.Stroke) {
		i, k, code := impl.FirstJam(b, list)
		is(t, "FirstJam", all(i, k, code), 0, 0, impl.ErrInvalid)
		n, code := impl.CountJams(b, list)
		is(t, "CountJams", all(n, code), 0, impl.ErrInvalid)
		printed, code := impl.PrintedOf(b, list)
		is(t, "PrintedOf", all(printed, code), []int64{}, impl.ErrInvalid)
		for _, tick := range []int64{0, -1} {
			bars, code := impl.InTheAir(b, list, tick)
			is(t, "InTheAir", all(bars, code), []int64{}, impl.ErrInvalid)
		}
	}
	for _, list := range wrongStrokes() {
		see(smallBasket(), list)
	}
	for _, b := range wrongBaskets() {
		see(b, nil)
	}
}

func TestFastestStrokes(t *testing.T) {
	slow := impl.Basket{Bars: 4, Rise: 50, Fall: 50, Clear: 1, Near: 2}
	quick := impl.Basket{Bars: 4, Rise: 1, Fall: 1, Clear: 9, Near: 3}
	for _, c := range []struct {
		name   string
		basket impl.Basket
		bars   []int64
		want   []impl.Stroke
		ticks  int64
	}{
		{"no bars", smallBasket(), nil, nil, 0},
		{"one bar", smallBasket(), []int64{9}, strokes([2]int64{9, 0}), 5},
		{"the document's example", smallBasket(), []int64{4, 5, 4}, strokes([2]int64{4, 0}, [2]int64{5, 4}, [2]int64{4, 8}), 13},
		{"a bar twice", smallBasket(), []int64{4, 4}, strokes([2]int64{4, 0}, [2]int64{4, 5}), 10},
		{"a bar waits for itself behind another one", smallBasket(), []int64{4, 9, 4}, strokes([2]int64{4, 0}, [2]int64{9, 2}, [2]int64{4, 5}), 10},
		{"a bar waits for itself behind two others", slow, []int64{0, 3, 1, 0}, strokes([2]int64{0, 0}, [2]int64{3, 1}, [2]int64{1, 2}, [2]int64{0, 100}), 200},
		{"a bar waits less for itself", quick, []int64{0, 0, 1, 0, 3}, strokes([2]int64{0, 0}, [2]int64{0, 2}, [2]int64{1, 13}, [2]int64{0, 24}, [2]int64{3, 33}), 35},
		{"at Near and at one less", smallBasket(), []int64{0, 3, 5}, strokes([2]int64{0, 0}, [2]int64{3, 2}, [2]int64{5, 5}), 10},
	} {
		list, code := impl.FastestStrokes(c.basket, c.bars)
		is(t, c.name, all(list, code), c.want, impl.OK)
		ticks, code := impl.TicksFor(c.basket, c.bars)
		is(t, c.name, all(ticks, code), c.ticks, impl.OK)
	}
	most := impl.Basket{Bars: 2, Rise: 100, Fall: 100, Clear: 1}
	list, code := impl.FastestStrokes(most, make([]int64, 60))
	if code != impl.OK || len(list) != 60 || list[59] != (impl.Stroke{Tick: 11800}) {
		t.Error("60 strokes of one bar", list, code)
	}
	ticks, code := impl.TicksFor(most, make([]int64, 60))
	is(t, "60 strokes of one bar", all(ticks, code), 12000, impl.OK)
}

func TestSlowestPair(t *testing.T) {
	quick := impl.Basket{Bars: 4, Rise: 1, Fall: 1, Clear: 9, Near: 3}
	for _, c := range []struct {
		name   string
		basket impl.Basket
		bars   []int64
		want   int64
	}{
		{"two", smallBasket(), []int64{0, 9}, 1},
		{"a bar twice", smallBasket(), []int64{4, 5, 4, 4}, 3},
		{"the first one of equal ones", smallBasket(), []int64{0, 9, 4, 5, 4, 3}, 3},
		{"not next to one another", smallBasket(), []int64{0, 9, 0, 2}, 3},
		{"a bar waits less for itself", quick, []int64{2, 2, 0, 0, 1, 1}, 4},
		{"60 bars", smallBasket(), make([]int64, 60), 1},
	} {
		i, code := impl.SlowestPair(c.basket, c.bars)
		is(t, c.name, all(i, code), c.want, impl.OK)
	}
	for _, bars := range [][]int64{nil, {}, {0}, {9}} {
		i, code := impl.SlowestPair(smallBasket(), bars)
		is(t, "less than two bars", all(i, code), 0, impl.ErrNotFound)
	}
}

func TestWrongBars(t *testing.T) {
	see := func(b impl.Basket, bars []int64, want int64) {
		list, code := impl.FastestStrokes(b, bars)
		is(t, "FastestStrokes", all(list, code), []int{}, want)
		ticks, code := impl.TicksFor(b, bars)
		is(t, "TicksFor", all(ticks, code), 0, want)
		i, code := impl.SlowestPair(b, bars)
		is(t, "SlowestPair", all(i, code), 0, want)
	}
	wrong := [][]int64{{-1}, {10}, {0, 10}, {0, 9, -1}, {1<<63 - 1, 0}, {-1 << 63, 0}, make([]int64, 61)}
	for _, bars := range wrong {
		see(smallBasket(), bars, impl.ErrRange)
	}
	for _, b := range wrongBaskets() {
		for _, bars := range append(wrong, nil, []int64{0}, []int64{0, 0}) {
			see(b, bars, impl.ErrInvalid)
		}
	}
}
