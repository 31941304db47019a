package tests

import (
	"math/rand"
	"slices"
	"testing"

	"loop.example/g01045/impl"
)

// jamsSlowly tells whether two strokes jam, counting the places that two bars are too near.
func jamsSlowly(b impl.Basket, first, second impl.Stroke) bool {
	wait := b.Clear
	for distance := max(first.Bar, second.Bar) - min(first.Bar, second.Bar); distance < b.Near; distance++ {
		wait++
	}
	if first.Bar == second.Bar {
		wait = b.Rise + b.Fall
	}
	return max(first.Tick, second.Tick)-min(first.Tick, second.Tick) < wait
}

// drawBasket returns a valid basket with few bars.
func drawBasket(r *rand.Rand) impl.Basket {
	return impl.Basket{Bars: 2 + r.Int63n(5), Rise: 1 + r.Int63n(6), Fall: 1 + r.Int63n(6), Clear: 1 + r.Int63n(6), Near: r.Int63n(6)}
}

// drawStrokes returns strokes of b, some of which may jam.
func drawStrokes(r *rand.Rand, b impl.Basket) []impl.Stroke {
	var list []impl.Stroke
	tick := r.Int63n(4)
	for range r.Intn(9) {
		list = append(list, impl.Stroke{Bar: r.Int63n(b.Bars), Tick: tick})
		tick += r.Int63n(9)
	}
	return list
}

// jamsWithAny tells whether s jams with one of list.
func jamsWithAny(b impl.Basket, list []impl.Stroke, s impl.Stroke) bool {
	return slices.ContainsFunc(list, func(other impl.Stroke) bool { return jamsSlowly(b, other, s) })
}

// Promise 3: no fastest stroke can begin a tick earlier.
func TestFastestStrokesCannotBeginEarlier(t *testing.T) {
	r := rand.New(rand.NewSource(5))
	for range 3000 {
		b := drawBasket(r)
		var bars []int64
		for range r.Intn(8) {
			bars = append(bars, r.Int63n(b.Bars))
		}
		list, code := impl.FastestStrokes(b, bars)
		if code != impl.OK || len(list) != len(bars) || !impl.ValidStrokes(b, list) {
			t.Fatalf("%+v, %v: %v, %d", b, bars, list, code)
		}
		rest := int64(0)
		for i, s := range list {
			first := int64(0)
			if i > 0 {
				first = list[i-1].Tick
			}
			for first < s.Tick && jamsWithAny(b, list[:i], impl.Stroke{Bar: s.Bar, Tick: first}) {
				first++
			}
			if s.Bar != bars[i] || s.Tick != first || jamsWithAny(b, list[:i], s) {
				t.Fatalf("%+v, %v: %v, but the stroke %d can begin at %d", b, bars, list, i, first)
			}
			rest = max(rest, s.Tick+b.Rise+b.Fall)
		}
		ticks, code := impl.TicksFor(b, bars)
		is(t, "TicksFor", all(ticks, code), rest, impl.OK)
		_, _, code = impl.FirstJam(b, list)
		is(t, "no jam", all(code), impl.ErrNotFound)
	}
}

// Promise 3: a first jam is told just if there is one.
func TestFirstJamIsToldJustIfThereIsOne(t *testing.T) {
	r := rand.New(rand.NewSource(6))
	jammed, free := 0, 0
	for range 5000 {
		b := drawBasket(r)
		list := drawStrokes(r, b)
		var jams [][2]int64
		var printed []impl.Stroke
		var indices []int64
		for i, s := range list {
			for k := range list[:i] {
				if jamsSlowly(b, list[k], s) {
					jams = append(jams, [2]int64{int64(i), int64(k)})
				}
			}
			if !jamsWithAny(b, printed, s) {
				printed, indices = append(printed, s), append(indices, int64(i))
			}
		}
		i, k, code := impl.FirstJam(b, list)
		if len(jams) == 0 {
			free++
			is(t, "no jam", all(i, k, code), 0, 0, impl.ErrNotFound)
		} else {
			jammed++
			is(t, "a jam", all(i, k, code), jams[0][0], jams[0][1], impl.OK)
		}
		n, code := impl.CountJams(b, list)
		is(t, "jams", all(n, code), len(jams), impl.OK)
		told, code := impl.PrintedOf(b, list)
		is(t, "printed", all(told, code), indices, impl.OK)
		airIsThis(t, b, list)
	}
	if jammed < 1000 || free < 1000 {
		t.Fatal("too few lists of a kind", jammed, free)
	}
}

// airIsThis follows each bar tick by tick.
func airIsThis(t *testing.T, b impl.Basket, list []impl.Stroke) {
	t.Helper()
	tick := int64(len(list)) * 5
	var up []int64
	for bar := range b.Bars {
		for _, s := range list {
			at := s.Tick
			for range b.Rise + b.Fall {
				if s.Bar == bar && at == tick && !slices.Contains(up, bar) {
					up = append(up, bar)
				}
				at++
			}
		}
	}
	told, code := impl.InTheAir(b, list, tick)
	is(t, "in the air", all(told, code), up, impl.OK)
}

// Promise 1 for chapter 3.
func TestBarsArePure(t *testing.T) {
	n := oddNumbers()
	baskets := append(wrongBaskets(), smallBasket(), impl.Basket{Bars: n[0], Rise: n[0], Fall: n[0], Clear: n[0], Near: n[0]},
		impl.Basket{Bars: 1<<63 - 1, Rise: 1<<63 - 1, Fall: 1<<63 - 1, Clear: 1<<63 - 1, Near: 1<<63 - 1}, impl.Basket{Bars: 60, Rise: 100, Fall: 100, Clear: 100, Near: 100})
	lists := append(wrongStrokes(), nil, strokes([2]int64{4, 0}, [2]int64{5, 3}, [2]int64{9, 3}), make([]impl.Stroke, 60), make([]impl.Stroke, 10000))
	for _, x := range n {
		lists = append(lists, strokes([2]int64{0, x}), strokes([2]int64{x, 0}, [2]int64{1, 3}), strokes([2]int64{x, x}, [2]int64{-x, -x}))
	}
	for _, b := range baskets {
		isPure(t, "ValidBasket", func() []any { return all(impl.ValidBasket(b)) })
		for _, l := range lists {
			strokeCallsArePure(t, b, l)
		}
		for _, x := range n {
			barCallsArePure(t, b, []int64{x})
			barCallsArePure(t, b, []int64{4, 5, 4, x, 4})
			for _, y := range n {
				isCoded(t, "MustWait", func() []any {
					ticks, code := impl.MustWait(b, x, y)
					return all(ticks, code)
				})
			}
		}
		barCallsArePure(t, b, make([]int64, 10000))
	}
}

// strokeCallsArePure checks the functions that take strokes.
func strokeCallsArePure(t *testing.T, b impl.Basket, l []impl.Stroke) {
	list, same := watched(l)
	isPure(t, "ValidStrokes", func() []any { return all(impl.ValidStrokes(b, list)) }, same)
	isCoded(t, "FirstJam", func() []any {
		i, k, code := impl.FirstJam(b, list)
		return all(i, k, code)
	}, same)
	isCoded(t, "CountJams", func() []any {
		jams, code := impl.CountJams(b, list)
		return all(jams, code)
	}, same)
	isCoded(t, "PrintedOf", func() []any {
		printed, code := impl.PrintedOf(b, list)
		return all(printed, code)
	}, same)
	for _, tick := range oddNumbers() {
		isCoded(t, "InTheAir", func() []any {
			bars, code := impl.InTheAir(b, list, tick)
			return all(bars, code)
		}, same)
	}
}

// barCallsArePure checks the functions that take bars.
func barCallsArePure(t *testing.T, b impl.Basket, l []int64) {
	bars, same := watched(l)
	isCoded(t, "FastestStrokes", func() []any {
		list, code := impl.FastestStrokes(b, bars)
		return all(list, code)
	}, same)
	isCoded(t, "TicksFor", func() []any {
		ticks, code := impl.TicksFor(b, bars)
		return all(ticks, code)
	}, same)
	isCoded(t, "SlowestPair", func() []any {
		i, code := impl.SlowestPair(b, bars)
		return all(i, code)
	}, same)
}
