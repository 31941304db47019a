package tests

import (
	"fmt"
	"math/rand"
	"slices"
	"strings"
	"testing"

	"loop.example/g01045/impl"
)

// slowRibbon is a ribbon that is moved and loses its ink stroke by stroke.
type slowRibbon struct {
	ink     []int64
	uses    []int64
	takes   int64
	at      int
	step    int
	strokes int64
	turns   int64
}

// newSlowRibbon returns a new ribbon.
func newSlowRibbon(r impl.Ribbon) *slowRibbon {
	spots := int(r.Spots)
	return &slowRibbon{ink: repeated(r.Ink, spots), uses: make([]int64, spots), takes: r.Takes, step: 1}
}

// strike does one stroke, and returns its spot and its shade.
func (s *slowRibbon) strike() (int64, int64) {
	spot, shade := s.at, s.ink[s.at]
	s.ink[spot] = max(0, shade-s.takes)
	s.uses[spot]++
	if s.strokes > 0 && (spot == 0 || spot == len(s.ink)-1) {
		s.turns++
		s.step = -s.step
	}
	s.strokes++
	s.at += s.step
	return int64(spot), shade
}

// typeText types a text and returns the shades of all bytes.
func (s *slowRibbon) typeText(text string) []int64 {
	var shades []int64
	for _, b := range []byte(text) {
		shade := int64(0)
		if b != ' ' {
			_, shade = s.strike()
		}
		shades = append(shades, shade)
	}
	return shades
}

// typed returns the ribbon after so many strokes.
func typed(r impl.Ribbon, strokes int64) *slowRibbon {
	s := newSlowRibbon(r)
	for range strokes {
		s.strike()
	}
	return s
}

// smallRibbons gives all ribbons with few spots and little ink.
func smallRibbons() []impl.Ribbon {
	var list []impl.Ribbon
	for spots := int64(2); spots <= 7; spots++ {
		for ink := int64(1); ink <= 9; ink++ {
			for takes := range ink {
				list = append(list, ribbon(spots, ink, takes+1))
			}
		}
	}
	return list
}

// drawRibbon returns a ribbon that is often dark enough for about MaxUses strokes.
func drawRibbon(r *rand.Rand) impl.Ribbon {
	x := ribbon(2+r.Int63n(199), 1+r.Int63n(1000), 1)
	switch r.Intn(4) {
	case 0:
		x.Spots = 2 + r.Int63n(9)
	case 1:
		x.Spots, x.Ink = 101+r.Int63n(100), 800+r.Int63n(201)
		return x
	case 2:
		x.Takes += r.Int63n(x.Ink)
		return x
	}
	x.Takes = min(x.Ink, 1+r.Int63n(5))
	return x
}

// strokeIsThis strikes a slow ribbon and checks what is told of this stroke and of those before it.
func strokeIsThis(t *testing.T, r impl.Ribbon, s *slowRibbon) {
	t.Helper()
	stroke := s.strokes
	turns, one := impl.TurnsIn(r, stroke)
	if turns != s.turns || one != impl.OK {
		t.Fatal("turns", r, stroke, turns, one, s.turns)
	}
	wantSpot, wantShade := s.strike()
	spot, one := impl.SpotAt(r, stroke)
	shade, two := impl.ShadeAt(r, stroke)
	if spot != wantSpot || shade != wantShade || one != impl.OK || two != impl.OK {
		t.Fatal("stroke", r, stroke, spot, one, wantSpot, shade, two, wantShade)
	}
}

// usesAreThese checks what is told of the uses of all spots of a slow ribbon.
func usesAreThese(t *testing.T, r impl.Ribbon, s *slowRibbon) {
	t.Helper()
	uses, code := impl.UsesOf(r, s.strokes)
	if !slices.Equal(uses, s.uses) || code != impl.OK {
		t.Fatal("uses", r, s.strokes, uses, code, s.uses)
	}
}

// Chapter 14: all first strokes of small ribbons.
func TestFirstStrokesOfSmallRibbons(t *testing.T) {
	for _, r := range smallRibbons() {
		s := newSlowRibbon(r)
		for range 100 {
			usesAreThese(t, r, s)
			strokeIsThis(t, r, s)
		}
	}
}

// Chapter 14: all strokes of drawn ribbons, up to MaxUses.
func TestAllStrokesOfDrawnRibbons(t *testing.T) {
	r := rand.New(rand.NewSource(64))
	list := []impl.Ribbon{fullRibbon(), ribbon(2, 1000, 1), ribbon(3, 1000, 1), ribbon(199, 1000, 3)}
	for range 20 {
		list = append(list, drawRibbon(r))
	}
	for _, x := range list {
		s := newSlowRibbon(x)
		for range int64(impl.MaxUses) + 1 {
			if r.Intn(1000) == 0 || s.strokes == impl.MaxUses {
				usesAreThese(t, x, s)
			}
			strokeIsThis(t, x, s)
		}
	}
}

// firstPaleSlowly returns, for each shade up to all ink, the first stroke that is paler, or -1 if none up to MaxUses is.
func firstPaleSlowly(r impl.Ribbon) []int64 {
	first := repeated[int64](-1, int(r.Ink)+1)
	s, darkest := newSlowRibbon(r), r.Ink // no stroke so far is paler than this
	for stroke := range int64(impl.MaxUses) + 1 {
		_, shade := s.strike()
		for ; darkest > shade; darkest-- {
			first[darkest] = stroke
		}
		if darkest == 0 {
			break
		}
	}
	return first
}

// strokesAreDarkUntil checks promise 14 for all shades that one may need; it counts the told strokes, and those that are none.
func strokesAreDarkUntil(t *testing.T, r impl.Ribbon) (told, full int) {
	t.Helper()
	first := firstPaleSlowly(r)
	for least := int64(1); least <= r.Ink; least++ {
		want, wantCode := first[least], int64(impl.OK)
		if want < 0 {
			want, wantCode = 0, impl.ErrFull
			full++
		} else {
			told++
		}
		stroke, code := impl.StrokesUntil(r, least)
		if stroke != want || code != wantCode {
			t.Fatal("strokes until", r, least, stroke, code, want, wantCode)
		}
	}
	return told, full
}

// Promise 14: strokes are dark enough up to the told one, which is not, by the shades that are told for them.
func TestStrokesAreDarkUpToTheToldOne(t *testing.T) {
	for _, r := range smallRibbons() {
		strokesAreDarkUntil(t, r)
		for least := int64(1); least <= r.Ink; least++ {
			told, code := impl.StrokesUntil(r, least)
			is(t, "StrokesUntil", all(code), impl.OK)
			for stroke := range told + 1 {
				shade, code := impl.ShadeAt(r, stroke)
				if (shade >= least) != (stroke < told) || code != impl.OK {
					t.Fatal(r, least, told, stroke, shade, code)
				}
			}
		}
	}
}

// Promise 14: strokes are dark enough up to the told one on ribbons of all sizes, and where none is told, all are dark enough.
func TestStrokesOfDrawnRibbonsAreDark(t *testing.T) {
	told, full := 0, 0
	list := []impl.Ribbon{fullRibbon(), ribbon(101, 1000, 1), ribbon(124, 1000, 1), ribbon(126, 1000, 1), ribbon(2, 1000, 1), ribbon(200, 1, 1)}
	r := rand.New(rand.NewSource(65))
	for range 300 {
		list = append(list, drawRibbon(r))
	}
	for _, x := range list {
		one, two := strokesAreDarkUntil(t, x)
		told, full = told+one, full+two
	}
	if told < 10000 || full < 1000 {
		t.Fatal("too few of a sort", told, full)
	}
}

// firstPaleOf returns the index of the first letter that is paler than least, and whether there is one.
func firstPaleOf(text string, shades []int64, least int64) (int64, bool) {
	for i, shade := range shades {
		if text[i] != ' ' && shade < least {
			return int64(i), true
		}
	}
	return 0, false
}

// textIsInked checks what is told of the shades of a text, and of its first pale letter.
func textIsInked(t *testing.T, r impl.Ribbon, done int64, text string, least int64) bool {
	t.Helper()
	want := typed(r, done).typeText(text)
	shades, code := impl.ShadesOf(r, done, text)
	name := fmt.Sprintf(" of %v after %d: %q", r, done, text)
	is(t, "the shades"+name, all(shades, code), want, impl.OK)
	first, found := firstPaleOf(text, want, least)
	index, code := impl.PalestLetter(r, done, text, least)
	is(t, fmt.Sprint("the first letter paler than ", least, name), all(index, code), first, okOr(found, impl.ErrNotFound))
	return found
}

// Chapter 14: all short texts on small ribbons.
func TestAllShortInkedTexts(t *testing.T) {
	for _, r := range []impl.Ribbon{ribbon(2, 5, 2), exampleRibbon(), ribbon(4, 3, 1)} {
		eachText("a ", 6, func(text string) {
			for done := range int64(9) {
				textIsInked(t, r, done, text, 1+done%r.Ink)
			}
		})
	}
}

// Chapter 14: drawn texts on drawn ribbons, also behind MaxUses strokes.
func TestDrawnInkedTexts(t *testing.T) {
	r := rand.New(rand.NewSource(66))
	var sorts [2]int
	for i := range 2000 {
		x, done := drawRibbon(r), r.Int63n(600)
		if i%50 == 0 {
			done = impl.MaxUses - r.Int63n(3)
		}
		least := 1 + r.Int63n(x.Ink)
		if r.Intn(2) == 0 { // what a letter of the text often has just left
			least, _ = impl.ShadeAt(x, done)
		}
		if textIsInked(t, x, done, drawText(r, "ab! ~  ", 100), max(1, least)) {
			sorts[0]++
		} else {
			sorts[1]++
		}
	}
	if min(sorts[0], sorts[1]) < 200 {
		t.Fatal("too few of a sort", sorts)
	}
}

// neededSlowly types strokes, with a new ribbon whenever the next one would be too pale.
func neededSlowly(r impl.Ribbon, strokes, least int64) int64 {
	var s *slowRibbon
	many := int64(0)
	for range strokes {
		if s == nil || s.ink[s.at] < least {
			s = newSlowRibbon(r)
			many++
		}
		s.strike()
	}
	return many
}

// Chapter 14: how many ribbons strokes need if a new one is taken whenever the next stroke would be too pale.
func TestRibbonsAreTakenWhenNeeded(t *testing.T) {
	for _, r := range smallRibbons() {
		for strokes := range int64(30) {
			for _, least := range []int64{1, (r.Ink + 1) / 2, r.Ink} {
				many, code := impl.RibbonsFor(r, strokes, least)
				is(t, fmt.Sprint("ribbons ", r, strokes, least), all(many, code), neededSlowly(r, strokes, least), impl.OK)
			}
		}
	}
	r := rand.New(rand.NewSource(67))
	for i := range 300 {
		x := drawRibbon(r)
		least, strokes := 1+r.Int63n(x.Ink), r.Int63n(5000)
		if told, code := impl.StrokesUntil(x, least); i%2 == 0 && code == impl.OK { // about as many as fill the ribbons
			strokes = min(impl.MaxUses, told*(1+r.Int63n(3))+r.Int63n(3)-1)
		}
		if i%30 == 0 {
			strokes = impl.MaxUses
		}
		many, code := impl.RibbonsFor(x, strokes, least)
		is(t, fmt.Sprint("ribbons ", x, strokes, least), all(many, code), neededSlowly(x, strokes, least), impl.OK)
	}
}

// offers are ribbons with a price each.
type offers struct {
	list   []impl.Ribbon
	prices []int64
}

// drawOffers returns ribbons with prices that often are the same.
func drawOffers(r *rand.Rand) offers {
	var o offers
	most := []int64{2, 10, 100001}[r.Intn(3)]
	for range r.Intn(21) {
		x := drawRibbon(r)
		if r.Intn(2) == 0 { // so that many are needed
			x = ribbon(2+r.Int63n(4), 1+r.Int63n(12), 1)
			x.Takes += r.Int63n(x.Ink)
		}
		o.list = append(o.list, x)
		o.prices = append(o.prices, r.Int63n(most))
	}
	return o
}

// bestSlowly returns the index of the best offer, or -1, its cost, and how many others cost the same.
func (o offers) bestSlowly(strokes, least int64) (int64, int64, int) {
	best, cost, ties := int64(-1), int64(0), 0
	for i, x := range o.list {
		if x.Ink < least {
			continue
		}
		c := o.prices[i] * neededSlowly(x, strokes, least)
		if best < 0 || c < cost {
			best, cost, ties = int64(i), c, 0
		} else if c == cost {
			ties++
		}
	}
	return best, cost, ties
}

// Chapter 14: no ribbon of drawn ones costs less than the best one, and none before it costs the same.
func TestNoRibbonIsCheaper(t *testing.T) {
	r := rand.New(rand.NewSource(68))
	var found, none, tied, later int
	for i := range 1500 {
		o, strokes := drawOffers(r), r.Int63n(300)
		if i%100 == 0 {
			strokes = impl.MaxUses
		}
		least := 1 + r.Int63n([]int64{3, 12, 1000}[r.Intn(3)])
		best, price, ties := o.bestSlowly(strokes, least)
		index, cost, code := impl.BestRibbon(o.list, o.prices, strokes, least)
		name := fmt.Sprint("the best of ", o, strokes, least)
		is(t, name, all(index, cost, code), max(0, best), price, okOr(best >= 0, impl.ErrNotFound))
		switch {
		case best < 0:
			none++
		case ties > 0:
			tied++
		case best > 0:
			later++
		default:
			found++
		}
	}
	if min(found, none, tied, later) < 50 {
		t.Fatal("too few of a sort", found, none, tied, later)
	}
}

// changesSlowly counts the letters that differ from the one before them, of which the first one is black.
func changesSlowly(colours string) int64 {
	letters := "b" + strings.ReplaceAll(colours, " ", "")
	changes := int64(0)
	for i := 1; i < len(letters); i++ {
		if letters[i] != letters[i-1] {
			changes++
		}
	}
	return changes
}

// Chapter 14: all short texts of colours, and drawn long ones.
func TestColoursAreChangedWhereNeeded(t *testing.T) {
	check := func(colours string) {
		changes, code := impl.ColourRuns(colours)
		is(t, fmt.Sprintf("colours %q", colours), all(changes, code), changesSlowly(colours), impl.OK)
	}
	eachText("br ", 8, check)
	r := rand.New(rand.NewSource(69))
	for range 500 {
		check(drawText(r, []string{"br", "br ", "bbbbr  "}[r.Intn(3)], 1000))
	}
}

// ribbonCallsArePure checks all functions of chapter 14 on one ribbon.
func ribbonCallsArePure(t *testing.T, r impl.Ribbon, n int64, text string, least int64) {
	t.Helper()
	isPure(t, "ValidRibbon", func() []any { return all(impl.ValidRibbon(r)) })
	isPure(t, "RibbonText", func() []any { return all(impl.RibbonText(r)) })
	isCoded(t, "SpotAt", func() []any { spot, code := impl.SpotAt(r, n); return all(spot, code) })
	isCoded(t, "UsesOf", func() []any { uses, code := impl.UsesOf(r, n); return all(uses, code) })
	isCoded(t, "ShadeAt", func() []any { shade, code := impl.ShadeAt(r, n); return all(shade, code) })
	isCoded(t, "StrokesUntil", func() []any { stroke, code := impl.StrokesUntil(r, least); return all(stroke, code) })
	isCoded(t, "TurnsIn", func() []any { turns, code := impl.TurnsIn(r, n); return all(turns, code) })
	isCoded(t, "ShadesOf", func() []any { shades, code := impl.ShadesOf(r, n, text); return all(shades, code) })
	isCoded(t, "PalestLetter", func() []any { index, code := impl.PalestLetter(r, n, text, least); return all(index, code) })
	isCoded(t, "RibbonsFor", func() []any { many, code := impl.RibbonsFor(r, n, least); return all(many, code) })
	isCoded(t, "ColourRuns", func() []any { changes, code := impl.ColourRuns(text); return all(changes, code) })
}

// bestRibbonIsPure checks BestRibbon on offers.
func bestRibbonIsPure(t *testing.T, o offers, strokes, least int64) {
	t.Helper()
	list, sameList := watched(o.list)
	prices, samePrices := watched(o.prices)
	isCoded(t, "BestRibbon", func() []any {
		index, cost, code := impl.BestRibbon(list, prices, strokes, least)
		return all(index, cost, code)
	}, sameList, samePrices)
}

// Promise 1 for chapter 14.
func TestRibbonsArePure(t *testing.T) {
	numbers := append(oddNumbers(), 12, 99, 100, 101, 999, 1000, 1001, 99999, 100000, 100001)
	for _, r := range append(rightRibbons(), wrongRibbons()...) {
		for _, n := range numbers {
			ribbonCallsArePure(t, r, n, "a bc", 1)
			ribbonCallsArePure(t, r, 1, "br b", n)
			bestRibbonIsPure(t, offers{[]impl.Ribbon{exampleRibbon(), r}, []int64{3, 3}}, n, 1)
			bestRibbonIsPure(t, offers{[]impl.Ribbon{r, exampleRibbon()}, []int64{3, n}}, 11, 6)
			bestRibbonIsPure(t, offers{[]impl.Ribbon{r}, []int64{3}}, 11, n)
		}
		for _, text := range append(oddTexts(), noInkTexts()...) {
			ribbonCallsArePure(t, r, 100000, text, 1)
		}
	}
	for _, c := range rangeOffers() {
		bestRibbonIsPure(t, offers{c.list, c.prices}, 11, 6)
	}
	r := rand.New(rand.NewSource(70))
	for range 500 {
		x := drawRibbon(r)
		ribbonCallsArePure(t, x, r.Int63n(impl.MaxUses+1), drawText(r, "br !~a", 100), 1+r.Int63n(x.Ink))
		bestRibbonIsPure(t, drawOffers(r), r.Int63n(impl.MaxUses+1), 1+r.Int63n(20))
	}
}
