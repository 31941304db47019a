package tests

import (
	"fmt"
	"math/rand"
	"testing"

	"loop.example/g01045/impl"
)

// goodSlowly takes the loss away page by page, until one cannot be read or there are 12.
func goodSlowly(c impl.Carbon) int64 {
	good, strength := int64(0), c.Force
	for strength >= c.Least && good < 12 {
		good++
		strength -= c.Loss
	}
	return good
}

// copiesAreGood checks the strengths of all pages, and how many can be read.
func copiesAreGood(t *testing.T, c impl.Carbon) {
	t.Helper()
	good, code := impl.GoodCopies(c)
	if good != goodSlowly(c) || code != impl.OK {
		t.Fatal("good copies", c, good, code)
	}
	left := c.Force
	for sheet := range int64(12) {
		strength, code := impl.StrengthAt(c, sheet)
		if strength != max(left, 0) || code != impl.OK {
			t.Fatal("strength", c, sheet, strength, code)
		}
		if (sheet < good) != (strength >= c.Least) {
			t.Fatal("a page that can be read is no copy, or a copy cannot be read", c, sheet, good, strength)
		}
		left -= c.Loss
	}
}

// Promise 13: the last good copy can be read, and the next one cannot, for all carbon papers that are weak.
func TestLastGoodCopiesOfWeakCarbon(t *testing.T) {
	for force := range int64(30) {
		for loss := range int64(32) {
			for least := range force + 1 {
				copiesAreGood(t, carbon(force+1, loss+1, least+1))
			}
		}
	}
}

// drawCarbon returns carbon paper whose typings often have many copies.
func drawCarbon(r *rand.Rand) impl.Carbon {
	most := []int64{20, 200, 1000}[r.Intn(3)]
	c := carbon(1+r.Int63n(most), 1+r.Int63n([]int64{3, 20, 100, 1000}[r.Intn(4)]), 1)
	c.Least += r.Int63n(c.Force)
	if r.Intn(3) == 0 { // the last copy is just strong enough
		c.Least = max(1, c.Force-c.Loss*r.Int63n(14))
	}
	return c
}

// Promise 13: the last good copy can be read, and the next one cannot.
func TestLastGoodCopiesOfDrawnCarbon(t *testing.T) {
	r := rand.New(rand.NewSource(58))
	var goods [13]int
	for range 20000 {
		c := drawCarbon(r)
		copiesAreGood(t, c)
		goods[goodSlowly(c)]++
	}
	for good, times := range goods[1:] {
		if times < 100 {
			t.Fatal("too few with as many copies", good+1, times)
		}
	}
}

// Chapter 13: with the force that is told there are so many copies, with one less there are not, and none is told only where no force is enough.
func TestForcesAreTheLeast(t *testing.T) {
	r := rand.New(rand.NewSource(59))
	found, full := 0, 0
	for range 400 {
		c := drawCarbon(r)
		for copies := range int64(14) {
			want, code := int64(0), int64(impl.ErrFull)
			for force := int64(1000); force >= c.Least; force-- {
				if goodSlowly(carbon(force, c.Loss, c.Least)) >= copies {
					want, code = force, impl.OK
				}
			}
			if copies < 1 || copies > 12 {
				want, code = 0, impl.ErrRange
			}
			force, other := impl.ForceFor(c, copies)
			is(t, fmt.Sprint("force for ", c, copies), all(force, other), want, code)
			if code == impl.OK {
				found++
			} else if code == impl.ErrFull {
				full++
			}
		}
	}
	if found < 1000 || full < 500 {
		t.Fatal("too few of a sort", found, full)
	}
}

// typedSlowly types copies one by one: it returns the typings and their price.
func typedSlowly(c impl.Carbon, w impl.Ways, copies int64) (int64, int64) {
	typings, price, room := int64(0), int64(0), int64(0)
	for range copies {
		if room == 0 {
			typings++
			price += w.Typing
			room = goodSlowly(c) - 1
		} else {
			price += w.Sheet
			room--
		}
	}
	return typings, price
}

// drawPrices returns prices for which a pull often costs nearly as much as a copy of a full typing.
func drawPrices(r *rand.Rand, c impl.Carbon) impl.Ways {
	most := []int64{2, 5, 30, 1000}[r.Intn(4)]
	sheet := 1 + r.Int63n(most)
	typing := 1 + r.Int63n(9*most)
	pull := (typing+(goodSlowly(c)-1)*sheet)/goodSlowly(c) + r.Int63n(most) - most/4
	if r.Intn(3) == 0 {
		pull = 1 + r.Int63n(typing)
	}
	return pricesOf(typing, sheet, 1+r.Int63n([]int64{1, most, 9 * most}[r.Intn(3)]), max(1, pull))
}

// Promise 13: no way to make copies is cheaper than the told one, and none that is as cheap types fewer.
func TestNoWayToMakeCopiesIsCheaper(t *testing.T) {
	r := rand.New(rand.NewSource(60))
	var sorts [3]int // all copies typed, all pulled, and both
	ties := 0
	for i := range 3000 {
		c := drawCarbon(r)
		w := drawPrices(r, c)
		copies := r.Int63n(30)
		if i%20 == 0 {
			copies = r.Int63n(501)
		}
		if i%3 == 0 { // the last copies cost as much in both ways, if there is such a stencil
			k := r.Int63n(copies + 1)
			_, price := typedSlowly(c, w, copies)
			_, less := typedSlowly(c, w, k)
			w.Stencil = min(10000, max(1, price-less-w.Pull*(copies-k)))
		}
		typed, pulled, least, code := impl.CheapestCopies(c, w, copies)
		name := fmt.Sprint("the cheapest way ", c, w, copies)
		is(t, name, all(typed+pulled, code), copies, impl.OK)
		asCheap := 0
		for k := range copies + 1 {
			_, price := typedSlowly(c, w, k)
			if k < copies {
				price += w.Stencil
			}
			for range copies - k {
				price += w.Pull
			}
			if price < least || price == least && k < typed || k == typed && price != least {
				t.Fatal(name, " told ", typed, pulled, least, " but ", k, price)
			}
			if price == least {
				asCheap++
			}
		}
		ties += min(1, asCheap-1)
		if copies > 0 && pulled == 0 {
			sorts[0]++
		} else if copies > 0 && typed == 0 {
			sorts[1]++
		} else if copies > 0 {
			sorts[2]++
		}
	}
	if min(sorts[0], sorts[1], sorts[2], ties) < 100 {
		t.Fatal("too few of a sort", sorts, ties)
	}
}

// Chapter 13: the typings, their prices, and from where on a stencil is cheaper, copy by copy.
func TestDrawnTypingsAndStencils(t *testing.T) {
	r := rand.New(rand.NewSource(61))
	none, later := 0, 0
	for range 300 {
		c := drawCarbon(r)
		w := drawPrices(r, c)
		want, code := int64(0), int64(impl.ErrNotFound)
		for copies := int64(500); copies >= 0; copies-- {
			typings, price := typedSlowly(c, w, copies)
			many, one := impl.TypingsFor(c, copies)
			cost, two := impl.CarbonPrice(c, w, copies)
			if many != typings || cost != price || one != impl.OK || two != impl.OK {
				t.Fatal(c, w, copies, many, typings, cost, price, one, two)
			}
			if copies > 0 && w.Stencil+copies*w.Pull < price {
				want, code = copies, impl.OK
			}
		}
		from, other := impl.StencilFrom(c, w)
		is(t, fmt.Sprint("a stencil ", c, w), all(from, other), want, code)
		if code != impl.OK {
			none++
		} else if want > 1 {
			later++
		}
	}
	if none < 30 || later < 30 {
		t.Fatal("too few of a sort", none, later)
	}
}

// placeSlowly counts the sheets that lie in front of a sheet.
func placeSlowly(worn []int64, index int) int64 {
	place := int64(0)
	for i, n := range worn {
		if n < worn[index] || n == worn[index] && i < index {
			place++
		}
	}
	return place
}

// wearSlowly wears each sheet by what lies behind it and by itself.
func wearSlowly(worn []int64, typings int) []int64 {
	for range typings {
		next := []int64{}
		for i, n := range worn {
			next = append(next, n+int64(len(worn))-placeSlowly(worn, i))
		}
		worn = next
	}
	return worn
}

// drawWorn returns how worn some sheets are, often equally.
func drawWorn(r *rand.Rand) []int64 {
	var worn []int64
	most := []int64{1, 3, 30, 100001}[r.Intn(4)]
	for range r.Intn(13) {
		worn = append(worn, r.Int63n(most))
	}
	return worn
}

// Chapter 13: drawn sheets are ordered and worn as if each one is looked for.
func TestDrawnSheets(t *testing.T) {
	r := rand.New(rand.NewSource(62))
	for i := range 3000 {
		worn := drawWorn(r)
		want := make([]int64, len(worn))
		for index := range worn {
			want[placeSlowly(worn, index)] = int64(index)
		}
		order, code := impl.EvenSheets(worn)
		is(t, fmt.Sprint("the order of ", worn), all(order, code), want, impl.OK)
		typings := r.Intn(30)
		if i%100 == 0 {
			typings = r.Intn(1001)
		}
		after, code := impl.WearSheets(worn, int64(typings))
		is(t, fmt.Sprint(worn, " after ", typings), all(after, code), wearSlowly(worn, typings), impl.OK)
	}
}

// copyCallsArePure checks all functions of chapter 13 on carbon paper and prices.
func copyCallsArePure(t *testing.T, c impl.Carbon, w impl.Ways, number int64) {
	t.Helper()
	isPure(t, "ValidCarbon", func() []any { return all(impl.ValidCarbon(c)) })
	isPure(t, "ValidWays", func() []any { return all(impl.ValidWays(w)) })
	isCoded(t, "StrengthAt", func() []any { strength, code := impl.StrengthAt(c, number); return all(strength, code) })
	isCoded(t, "GoodCopies", func() []any { good, code := impl.GoodCopies(c); return all(good, code) })
	isCoded(t, "ForceFor", func() []any { force, code := impl.ForceFor(c, number); return all(force, code) })
	isCoded(t, "TypingsFor", func() []any { typings, code := impl.TypingsFor(c, number); return all(typings, code) })
	isCoded(t, "CarbonPrice", func() []any { price, code := impl.CarbonPrice(c, w, number); return all(price, code) })
	isCoded(t, "CheapestCopies", func() []any {
		typed, pulled, price, code := impl.CheapestCopies(c, w, number)
		return all(typed, pulled, price, code)
	})
	isCoded(t, "StencilFrom", func() []any { from, code := impl.StencilFrom(c, w); return all(from, code) })
}

// sheetCallsArePure checks all functions of chapter 13 on sheets.
func sheetCallsArePure(t *testing.T, list []int64, typings int64) {
	t.Helper()
	worn, same := watched(list)
	isCoded(t, "WearSheets", func() []any { after, code := impl.WearSheets(worn, typings); return all(after, code) }, same)
	isCoded(t, "EvenSheets", func() []any { order, code := impl.EvenSheets(worn); return all(order, code) }, same)
}

// Promise 1 for chapter 13.
func TestCopiesArePure(t *testing.T) {
	numbers := append(oddNumbers(), 12, 13, 499, 500, 501, 999, 1000, 1001, 10000, 10001, 99999, 100000, 100001)
	for _, n := range numbers {
		for _, c := range append(rightCarbons(), wrongCarbons()...) {
			copyCallsArePure(t, c, pricesOf(40, 2, 60, 1), n)
		}
		for _, w := range append(rightPrices(), wrongPrices()...) {
			copyCallsArePure(t, exampleCarbon(), w, n)
		}
		for _, list := range [][]int64{nil, {}, {0}, {5, 0}, {3, 1, 3}, make([]int64, 12), make([]int64, 13), {100000}, {100001}} {
			sheetCallsArePure(t, list, n)
		}
		for _, at := range []int64{0, 1, 2, 1000} {
			sheetCallsArePure(t, []int64{n}, at)
			sheetCallsArePure(t, []int64{3, n, 4}, at)
		}
	}
	r := rand.New(rand.NewSource(63))
	for range 500 {
		c := drawCarbon(r)
		copyCallsArePure(t, c, drawPrices(r, c), r.Int63n(501))
		sheetCallsArePure(t, drawWorn(r), r.Int63n(100))
	}
}
