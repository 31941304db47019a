package tests

import (
	"fmt"
	"slices"
	"testing"

	"loop.example/g01045/impl"
)

// carbon returns carbon paper: how strong the first page is, what each page takes away, and how strong one must be.
func carbon(force, loss, least int64) impl.Carbon {
	return impl.Carbon{Force: force, Loss: loss, Least: least}
}

// pricesOf returns prices of a typing, a sheet, a stencil and a pull.
func pricesOf(typing, sheet, stencil, pull int64) impl.Ways {
	return impl.Ways{Typing: typing, Sheet: sheet, Stencil: stencil, Pull: pull}
}

// exampleCarbon has 3 copies in a typing.
func exampleCarbon() impl.Carbon { return carbon(100, 20, 50) }

// rightCarbons returns carbon papers of all sorts.
func rightCarbons() []impl.Carbon {
	return []impl.Carbon{exampleCarbon(), carbon(1, 1, 1), carbon(1, 1000, 1), carbon(2, 1, 1), carbon(1000, 1, 1), carbon(1000, 1000, 1000), carbon(1000, 1000, 1), carbon(1000, 1, 1000), carbon(1000, 1000, 999), carbon(12, 1, 1), carbon(500, 30, 500), carbon(500, 30, 499)}
}

// wrongNumbers returns numbers that are less than 1 or greater than most.
func wrongNumbers(most int64) []int64 {
	return []int64{0, -1, -2, -most, most + 1, most + 2, 1 << 32, 1<<32 + 1, -1 << 32, -1 << 63, 1<<63 - 1}
}

// wrongCarbons returns carbon papers that are not valid.
func wrongCarbons() []impl.Carbon {
	list := []impl.Carbon{{}, carbon(1, 1, 2), carbon(100, 20, 101), carbon(999, 1, 1000), carbon(50, 20, 100), carbon(1001, 1001, 1001), carbon(-1, -1, -1), carbon(1<<63-1, 1<<63-1, 1<<63-1), carbon(-1<<63, -1<<63, -1<<63)}
	for _, n := range wrongNumbers(1000) {
		list = append(list, carbon(n, 1, 1), carbon(1000, n, 1), carbon(1000, 1, n), carbon(n, 20, n), carbon(100, n, 100))
	}
	return list
}

// rightPrices returns prices of all sorts.
func rightPrices() []impl.Ways {
	return []impl.Ways{pricesOf(40, 2, 60, 1), pricesOf(1, 1, 1, 1), pricesOf(10000, 10000, 10000, 10000), pricesOf(10000, 1, 1, 1), pricesOf(1, 10000, 1, 1), pricesOf(1, 1, 10000, 1), pricesOf(1, 1, 1, 10000)}
}

// wrongPrices returns prices that are not valid.
func wrongPrices() []impl.Ways {
	list := []impl.Ways{{}, pricesOf(10001, 10001, 10001, 10001), pricesOf(-1, -1, -1, -1)}
	for _, n := range wrongNumbers(10000) {
		list = append(list, pricesOf(n, 2, 60, 1), pricesOf(40, n, 60, 1), pricesOf(40, 2, n, 1), pricesOf(40, 2, 60, n))
	}
	return list
}

func TestValidCarbonAndWays(t *testing.T) {
	is(t, "limits", all(impl.MaxForce, impl.MaxCopies, impl.MaxSheets, impl.MaxPrice), 1000, 500, 12, 10000)
	for _, c := range rightCarbons() {
		is(t, fmt.Sprint("carbon ", c), all(impl.ValidCarbon(c)), true)
	}
	for _, c := range wrongCarbons() {
		is(t, fmt.Sprint("no carbon ", c), all(impl.ValidCarbon(c)), false)
	}
	for _, w := range rightPrices() {
		is(t, fmt.Sprint("prices ", w), all(impl.ValidWays(w)), true)
	}
	for _, w := range wrongPrices() {
		is(t, fmt.Sprint("no prices ", w), all(impl.ValidWays(w)), false)
	}
}

func TestStrengthAt(t *testing.T) {
	for _, c := range []struct {
		name        string
		c           impl.Carbon
		sheet, want int64
	}{
		{"the first page", exampleCarbon(), 0, 100},
		{"the second page", exampleCarbon(), 1, 80},
		{"the third page", exampleCarbon(), 2, 60},
		{"a page that cannot be read", exampleCarbon(), 3, 40},
		{"just nothing is left", exampleCarbon(), 5, 0},
		{"a strength that would fall below 0", exampleCarbon(), 6, 0},
		{"the last page", exampleCarbon(), 11, 0},
		{"the last page, which is strong", carbon(1000, 1, 1), 11, 989},
		{"the last page, which has one left", carbon(12, 1, 1), 11, 1},
		{"the last page, which has nothing left", carbon(11, 1, 1), 11, 0},
		{"one more would be below 0", carbon(10, 1, 1), 11, 0},
		{"the greatest loss", carbon(1000, 1000, 1), 1, 0},
		{"the greatest loss of one less", carbon(999, 1000, 1), 1, 0},
		{"the greatest loss but one", carbon(1000, 999, 1), 1, 1},
		{"the most that can be lost", carbon(1, 1000, 1), 11, 0},
		{"the least force", carbon(1, 1, 1), 0, 1},
	} {
		strength, code := impl.StrengthAt(c.c, c.sheet)
		is(t, c.name, all(strength, code), c.want, impl.OK)
	}
	for _, sheet := range []int64{-1, 12, 13, -12, 1 << 32, 1<<32 + 1, -1 << 63, 1<<63 - 1} {
		for _, c := range rightCarbons() {
			strength, code := impl.StrengthAt(c, sheet)
			is(t, fmt.Sprint("the page ", sheet), all(strength, code), 0, impl.ErrRange)
		}
	}
}

func TestGoodCopies(t *testing.T) {
	for _, c := range []struct {
		name string
		c    impl.Carbon
		want int64
	}{
		{"the example", exampleCarbon(), 3},
		{"a last copy that is just strong enough", carbon(100, 20, 60), 3},
		{"a last copy that is too weak by one", carbon(100, 20, 61), 2},
		{"only the first page", carbon(100, 20, 81), 1},
		{"a second page that is just strong enough", carbon(100, 20, 80), 2},
		{"a first page that is just strong enough", carbon(100, 20, 100), 1},
		{"the least force", carbon(1, 1, 1), 1},
		{"the greatest loss", carbon(1000, 1000, 1), 1},
		{"a page with no strength cannot be read", carbon(1000, 500, 1), 2},
		{"one less than MaxSheets", carbon(11, 1, 1), 11},
		{"just MaxSheets", carbon(12, 1, 1), 12},
		{"one more than MaxSheets", carbon(13, 1, 1), 12},
		{"many more than MaxSheets", carbon(1000, 1, 1), 12},
		{"MaxSheets, the last of which is just strong enough", carbon(1000, 90, 10), 12},
		{"MaxSheets, the last of which is too weak by one", carbon(1000, 90, 11), 11},
	} {
		copies, code := impl.GoodCopies(c.c)
		is(t, c.name, all(copies, code), c.want, impl.OK)
	}
}

func TestForceFor(t *testing.T) {
	for _, c := range []struct {
		name         string
		c            impl.Carbon
		copies, want int64
	}{
		{"the given carbon", exampleCarbon(), 4, 110},
		{"one copy", exampleCarbon(), 1, 50},
		{"two copies", exampleCarbon(), 2, 70},
		{"as many copies as there are", exampleCarbon(), 3, 90},
		{"MaxSheets copies", exampleCarbon(), 12, 270},
		{"the force that there is does not matter", carbon(1000, 20, 50), 4, 110},
		{"a force of just MaxForce", carbon(1, 999, 1), 2, 1000},
		{"MaxForce for one copy", carbon(1000, 1000, 1000), 1, 1000},
		{"MaxForce for MaxSheets copies", carbon(10, 90, 10), 12, 1000},
		{"the least force for one copy", carbon(1000, 1000, 1), 1, 1},
		{"the least force for MaxSheets copies", carbon(1, 1, 1), 12, 12},
	} {
		force, code := impl.ForceFor(c.c, c.copies)
		is(t, c.name, all(force, code), c.want, impl.OK)
	}
	for _, c := range []struct {
		name   string
		c      impl.Carbon
		copies int64
	}{
		{"a force that would exceed MaxForce by one, because of the loss", carbon(1, 1000, 1), 2},
		{"a force that would exceed MaxForce by one, because of what is needed", carbon(2, 999, 2), 2},
		{"a force that would exceed MaxForce by one for MaxSheets copies", carbon(11, 90, 11), 12},
		{"one more copy than MaxForce has", carbon(1000, 1, 1000), 2},
		{"the greatest force of all", carbon(1000, 1000, 1000), 12},
	} {
		force, code := impl.ForceFor(c.c, c.copies)
		is(t, c.name, all(force, code), 0, impl.ErrFull)
	}
	for _, copies := range wrongNumbers(12) {
		for _, c := range rightCarbons() {
			force, code := impl.ForceFor(c, copies)
			is(t, fmt.Sprint("ForceFor ", copies), all(force, code), 0, impl.ErrRange)
		}
	}
}

func TestTypingsAndTheirPrice(t *testing.T) {
	w := pricesOf(40, 2, 60, 1)
	for _, c := range []struct {
		name                   string
		c                      impl.Carbon
		w                      impl.Ways
		copies, typings, price int64
	}{
		{"the example", exampleCarbon(), w, 10, 4, 172},
		{"0 copies", exampleCarbon(), w, 0, 0, 0},
		{"one copy needs no sheet", exampleCarbon(), w, 1, 1, 40},
		{"two copies need one sheet", exampleCarbon(), w, 2, 1, 42},
		{"copies that fill their typing exactly", exampleCarbon(), w, 3, 1, 44},
		{"one more", exampleCarbon(), w, 4, 2, 84},
		{"copies that fill several typings exactly", exampleCarbon(), w, 9, 3, 132},
		{"MaxCopies copies", exampleCarbon(), w, 500, 167, 7346},
		{"MaxCopies copies that fill their typings exactly", carbon(100, 20, 20), w, 500, 100, 4800},
		{"MaxCopies - 1 copies", carbon(100, 20, 20), w, 499, 100, 4798},
		{"MaxSheets copies", carbon(1000, 1, 1), w, 12, 1, 62},
		{"MaxSheets copies and one more", carbon(1000, 1, 1), w, 13, 2, 102},
		{"MaxCopies copies in the fewest typings", carbon(1000, 1, 1), w, 500, 42, 2596},
		{"a typing for each copy", carbon(1, 1, 1), w, 500, 500, 20000},
		{"the most typings, and the greatest prices", carbon(1, 1, 1), pricesOf(10000, 10000, 10000, 10000), 500, 500, 5000000},
		{"sheets that are dearer than typings", exampleCarbon(), pricesOf(1, 10000, 1, 1), 3, 1, 20001},
		{"the least prices", exampleCarbon(), pricesOf(1, 1, 10000, 10000), 500, 167, 500},
	} {
		typings, code := impl.TypingsFor(c.c, c.copies)
		is(t, "TypingsFor, "+c.name, all(typings, code), c.typings, impl.OK)
		price, code := impl.CarbonPrice(c.c, c.w, c.copies)
		is(t, "CarbonPrice, "+c.name, all(price, code), c.price, impl.OK)
	}
}

func TestCheapestCopies(t *testing.T) {
	w := pricesOf(40, 2, 60, 1)
	for _, c := range []struct {
		name                          string
		c                             impl.Carbon
		w                             impl.Ways
		copies, typed, pulled, expect int64
	}{
		{"the given prices", exampleCarbon(), w, 10, 0, 10, 70},
		{"0 copies need no stencil", exampleCarbon(), w, 0, 0, 0, 0},
		{"0 copies, whatever the prices are", exampleCarbon(), pricesOf(10000, 10000, 1, 1), 0, 0, 0, 0},
		{"one copy", exampleCarbon(), w, 1, 1, 0, 40},
		{"copies that fill their typing exactly", exampleCarbon(), w, 3, 3, 0, 44},
		{"one more", exampleCarbon(), w, 4, 0, 4, 64},
		{"one copy that is pulled", exampleCarbon(), pricesOf(40, 2, 30, 1), 1, 0, 1, 31},
		{"one copy that costs as much in both ways", exampleCarbon(), pricesOf(61, 2, 60, 1), 1, 0, 1, 61},
		{"one copy that costs one more if it is pulled", exampleCarbon(), pricesOf(60, 2, 60, 1), 1, 1, 0, 60},
		{"one copy that costs one less if it is pulled", exampleCarbon(), pricesOf(62, 2, 60, 1), 1, 0, 1, 61},
		{"a full typing, and the one more copy is pulled", exampleCarbon(), pricesOf(40, 2, 5, 20), 4, 3, 1, 69},
		{"two full typings, and the one more copy is pulled", exampleCarbon(), pricesOf(40, 2, 5, 20), 7, 6, 1, 113},
		{"two full typings, and two more copies are typed", exampleCarbon(), pricesOf(40, 2, 5, 20), 8, 8, 0, 130},
		{"the one more copy costs as much in both ways: fewer are typed", exampleCarbon(), pricesOf(40, 2, 15, 25), 4, 3, 1, 84},
		{"the one more copy costs one more if it is pulled", exampleCarbon(), pricesOf(40, 2, 16, 25), 4, 4, 0, 84},
		{"none or two of two copies are typed for the same price", exampleCarbon(), pricesOf(10, 5, 5, 5), 2, 0, 2, 15},
		{"none or three of three copies are typed for the same price", exampleCarbon(), pricesOf(10, 5, 5, 5), 3, 0, 3, 20},
		{"a pull costs as much as a sheet: all copies of a typing but the first one", exampleCarbon(), pricesOf(10, 5, 8, 5), 6, 0, 6, 38},
		{"a typing for each copy costs as much as a pull, and no stencil", carbon(1, 1, 1), pricesOf(5, 1, 1, 5), 500, 500, 0, 2500},
		{"a typing for each copy costs one less than a pull", carbon(1, 1, 1), pricesOf(6, 1, 499, 5), 500, 0, 500, 2999},
		{"the stencil costs as much as all copies save", carbon(1, 1, 1), pricesOf(6, 1, 500, 5), 500, 0, 500, 3000},
		{"the stencil costs one more than all copies save", carbon(1, 1, 1), pricesOf(6, 1, 501, 5), 500, 500, 0, 3000},
		{"MaxCopies copies that are typed", carbon(1000, 1, 1), pricesOf(1, 1, 10000, 10000), 500, 500, 0, 500},
		{"MaxCopies copies of which eight are pulled", carbon(1000, 1, 1), pricesOf(100, 1, 1, 10), 500, 492, 8, 4632},
		{"the greatest prices: the stencil costs one copy more", carbon(1, 1, 1), pricesOf(10000, 10000, 10000, 10000), 500, 500, 0, 5000000},
		{"the least prices", carbon(1000, 1, 1), pricesOf(1, 1, 1, 1), 500, 500, 0, 500},
	} {
		typed, pulled, price, code := impl.CheapestCopies(c.c, c.w, c.copies)
		is(t, c.name, all(typed, pulled, price, code), c.typed, c.pulled, c.expect, impl.OK)
	}
}

func TestStencilFrom(t *testing.T) {
	for _, c := range []struct {
		name string
		c    impl.Carbon
		w    impl.Ways
		want int64
	}{
		{"the given prices", exampleCarbon(), pricesOf(40, 2, 60, 1), 4},
		{"from one copy on", exampleCarbon(), pricesOf(40, 2, 38, 1), 1},
		{"a stencil that is as dear as typing for one copy, and cheaper for two", exampleCarbon(), pricesOf(40, 2, 39, 1), 2},
		{"a stencil that is as dear as typing for one copy and more", exampleCarbon(), pricesOf(40, 2, 38, 2), 4},
		{"a stencil that is cheaper for one copy, but not for two", exampleCarbon(), pricesOf(100, 1, 50, 40), 1},
		{"just at the second typing, cheaper by two", exampleCarbon(), pricesOf(100, 1, 80, 30), 4},
		{"just at the second typing, cheaper by one", exampleCarbon(), pricesOf(100, 1, 81, 30), 4},
		{"as dear at the second typing, and cheaper at the third one", exampleCarbon(), pricesOf(100, 1, 70, 33), 7},
		{"as dear as typing up to MaxCopies - 1", carbon(1, 1, 1), pricesOf(10, 1, 499, 9), 500},
		{"from MaxCopies - 1 on", carbon(1, 1, 1), pricesOf(10, 1, 498, 9), 499},
	} {
		copies, code := impl.StencilFrom(c.c, c.w)
		is(t, c.name, all(copies, code), c.want, impl.OK)
	}
	for _, c := range []struct {
		name string
		c    impl.Carbon
		w    impl.Ways
	}{
		{"as dear as typing for MaxCopies", carbon(1, 1, 1), pricesOf(10, 1, 500, 9)},
		{"dearer for MaxCopies, too", carbon(1, 1, 1), pricesOf(10, 1, 501, 9)},
		{"a pull that is as dear as a typing", carbon(1, 1, 1), pricesOf(10, 1, 1, 10)},
		{"the greatest prices of stencils", exampleCarbon(), pricesOf(1, 1, 10000, 10000)},
		{"others of the given prices", exampleCarbon(), pricesOf(1, 1, 9999, 100)},
	} {
		copies, code := impl.StencilFrom(c.c, c.w)
		is(t, c.name, all(copies, code), 0, impl.ErrNotFound)
	}
}

// carbonReturns checks what the functions on carbon paper without prices return if there is no result.
func carbonReturns(t *testing.T, c impl.Carbon, number, want int64) {
	t.Helper()
	name := fmt.Sprintf(" for %v and %d", c, number)
	strength, code := impl.StrengthAt(c, number)
	is(t, "StrengthAt"+name, all(strength, code), 0, want)
	force, code := impl.ForceFor(c, number)
	is(t, "ForceFor"+name, all(force, code), 0, want)
	typings, code := impl.TypingsFor(c, number)
	is(t, "TypingsFor"+name, all(typings, code), 0, want)
}

// copiesReturn checks what the functions on copies and prices return if there is no result.
func copiesReturn(t *testing.T, c impl.Carbon, w impl.Ways, copies, want int64) {
	t.Helper()
	name := fmt.Sprintf(" for %v, %v and %d", c, w, copies)
	price, code := impl.CarbonPrice(c, w, copies)
	is(t, "CarbonPrice"+name, all(price, code), 0, want)
	typed, pulled, price, code := impl.CheapestCopies(c, w, copies)
	is(t, "CheapestCopies"+name, all(typed, pulled, price, code), 0, 0, 0, want)
}

func TestNoCopies(t *testing.T) {
	w := pricesOf(40, 2, 60, 1)
	for _, copies := range append(wrongNumbers(500)[1:], -500) {
		for _, c := range rightCarbons() {
			typings, code := impl.TypingsFor(c, copies)
			is(t, fmt.Sprint("TypingsFor ", copies), all(typings, code), 0, impl.ErrRange)
			copiesReturn(t, c, w, copies, impl.ErrRange)
		}
		carbonReturns(t, exampleCarbon(), copies, impl.ErrRange)
	}
	numbers := append(wrongNumbers(500), 0, 1, 10, 12, 500)
	for _, c := range wrongCarbons() {
		good, code := impl.GoodCopies(c)
		is(t, fmt.Sprint("GoodCopies for ", c), all(good, code), 0, impl.ErrInvalid)
		from, code := impl.StencilFrom(c, w)
		is(t, fmt.Sprint("StencilFrom for ", c), all(from, code), 0, impl.ErrInvalid)
		from, code = impl.StencilFrom(c, impl.Ways{})
		is(t, fmt.Sprint("StencilFrom without prices for ", c), all(from, code), 0, impl.ErrInvalid)
		for _, n := range numbers {
			carbonReturns(t, c, n, impl.ErrInvalid)
			copiesReturn(t, c, w, n, impl.ErrInvalid)
			copiesReturn(t, c, impl.Ways{}, n, impl.ErrInvalid)
		}
	}
	for _, w := range wrongPrices() {
		from, code := impl.StencilFrom(exampleCarbon(), w)
		is(t, fmt.Sprint("StencilFrom for ", w), all(from, code), 0, impl.ErrInvalid)
		from, code = impl.StencilFrom(carbon(1, 1, 1), w)
		is(t, fmt.Sprint("StencilFrom with one copy for ", w), all(from, code), 0, impl.ErrInvalid)
		for _, n := range numbers {
			copiesReturn(t, exampleCarbon(), w, n, impl.ErrInvalid)
		}
	}
}

// downFrom returns the numbers from n down to 1.
func downFrom(n int64) []int64 {
	list := upTo(n)
	slices.Reverse(list)
	return list
}

func TestWearSheets(t *testing.T) {
	for _, c := range []struct {
		name    string
		worn    []int64
		typings int64
		want    []int64
	}{
		{"the given sheets", []int64{5, 0}, 2, []int64{7, 4}},
		{"no sheets", nil, 0, nil},
		{"no sheets, and some typings", nil, 3, nil},
		{"no sheets, and 1000 typings", []int64{}, 1000, nil},
		{"0 typings", []int64{5, 0, 7, 0}, 0, []int64{5, 0, 7, 0}},
		{"one sheet", []int64{4}, 1, []int64{5}},
		{"one sheet, 1000 typings", []int64{0}, 1000, []int64{1000}},
		{"two sheets, one typing", []int64{5, 0}, 1, []int64{6, 2}},
		{"two equally worn sheets: the first one lies in front", []int64{0, 0}, 1, []int64{2, 1}},
		{"two equally worn sheets, then the other one lies in front", []int64{0, 0}, 2, []int64{3, 3}},
		{"two equally worn sheets, three typings", []int64{0, 0}, 3, []int64{5, 4}},
		{"two equally worn sheets, 999 typings", []int64{0, 0}, 999, []int64{1499, 1498}},
		{"two equally worn sheets, 1000 typings", []int64{0, 0}, 1000, []int64{1500, 1500}},
		{"three sheets that become equally worn", []int64{2, 1, 0}, 1, []int64{3, 3, 3}},
		{"three sheets, of which two are equally worn", []int64{3, 1, 3}, 1, []int64{5, 4, 4}},
		{"the same, after two typings", []int64{3, 1, 3}, 2, []int64{6, 7, 6}},
		{"three sheets that are laid once only", []int64{10, 20, 30}, 1, []int64{13, 22, 31}},
		{"MaxSheets sheets, one typing", make([]int64, 12), 1, downFrom(12)},
		{"MaxSheets sheets, two typings", make([]int64, 12), 2, repeated[int64](13, 12)},
		{"MaxSheets sheets, 1000 typings", make([]int64, 12), 1000, repeated[int64](6500, 12)},
		{"the most that sheets may be worn", []int64{100000}, 1000, []int64{101000}},
		{"MaxSheets sheets that are worn most", repeated[int64](100000, 12), 1, []int64{100012, 100011, 100010, 100009, 100008, 100007, 100006, 100005, 100004, 100003, 100002, 100001}},
		{"a new sheet beside one that is worn most", []int64{100000, 0}, 1000, []int64{101000, 2000}},
		{"100000 and one less", []int64{100000, 99999}, 1, []int64{100001, 100001}},
	} {
		worn, code := impl.WearSheets(c.worn, c.typings)
		is(t, c.name, all(worn, code), c.want, impl.OK)
	}
}

func TestEvenSheets(t *testing.T) {
	for _, c := range []struct {
		name string
		worn []int64
		want []int64
	}{
		{"the given sheets", []int64{5, 0}, []int64{1, 0}},
		{"no sheets", nil, nil},
		{"an empty list", []int64{}, nil},
		{"one sheet", []int64{7}, []int64{0}},
		{"sheets in order", []int64{1, 2, 3}, []int64{0, 1, 2}},
		{"sheets in the opposite order", []int64{3, 2, 1}, []int64{2, 1, 0}},
		{"equally worn sheets", []int64{4, 4, 4, 4}, []int64{0, 1, 2, 3}},
		{"equally worn sheets between others", []int64{4, 1, 4, 0, 4, 1}, []int64{3, 1, 5, 0, 2, 4}},
		{"MaxSheets new sheets", make([]int64, 12), append([]int64{0}, upTo(11)...)},
		{"MaxSheets sheets in the opposite order", downFrom(12), append(downFrom(11), 0)},
		{"the least and the greatest number", []int64{100000, 0, 100000, 0}, []int64{1, 3, 0, 2}},
		{"the greatest number and one less", []int64{100000, 99999}, []int64{1, 0}},
		{"numbers, not texts", []int64{100, 20, 3}, []int64{2, 1, 0}},
	} {
		order, code := impl.EvenSheets(c.worn)
		is(t, c.name, all(order, code), c.want, impl.OK)
	}
}

func TestNoSheets(t *testing.T) {
	lists := [][]int64{make([]int64, 13), make([]int64, 100000), repeated[int64](100000, 13), repeated[int64](-1, 13), upTo(13)}
	for _, n := range []int64{-1, 100001, 100002, -100000, 1 << 32, 1<<32 + 1, -1 << 63, 1<<63 - 1} {
		lists = append(lists, []int64{n}, []int64{n, 5}, []int64{5, n}, []int64{5, n, 6}, append(make([]int64, 11), n), append([]int64{n}, make([]int64, 11)...), append(make([]int64, 12), n))
	}
	typings := []int64{-1, 1001, 1002, -1000, 1 << 32, 1<<32 + 1, -1 << 63, 1<<63 - 1}
	for _, list := range lists {
		name := fmt.Sprintf("%.60s", fmt.Sprint(list))
		order, code := impl.EvenSheets(list)
		is(t, "EvenSheets of "+name, all(order, code), []int64{}, impl.ErrRange)
		for _, n := range append(typings, 0, 1, 1000) {
			worn, code := impl.WearSheets(list, n)
			is(t, fmt.Sprint("WearSheets of ", name, ", ", n), all(worn, code), []int64{}, impl.ErrRange)
		}
	}
	for _, list := range [][]int64{nil, {}, {0}, {100000}, make([]int64, 12)} {
		for _, n := range typings {
			worn, code := impl.WearSheets(list, n)
			is(t, fmt.Sprint("typings ", n), all(worn, code), []int64{}, impl.ErrRange)
		}
	}
}
