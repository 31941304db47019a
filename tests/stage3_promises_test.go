package tests

import (
	"math/rand"
	"strings"
	"testing"

	"loop.example/g01045/impl"
)

// drawCarriage returns a valid carriage, often a narrow one.
func drawCarriage(r *rand.Rand) impl.Carriage {
	c := impl.Carriage{Left: r.Int63n(8)}
	c.Right = c.Left + impl.LeastRun + r.Int63n(9)
	if r.Intn(4) == 0 {
		c.Right = impl.MaxHalf - r.Int63n(3)
	}
	c.Bell = c.Left + r.Int63n(c.Right-c.Left+1)
	return c
}

// drawText returns up to most bytes of the given ones.
func drawText(r *rand.Rand, bytes string, most int) string {
	text := make([]byte, r.Intn(most+1))
	for i := range text {
		text[i] = bytes[r.Intn(len(bytes))]
	}
	return string(text)
}

// Promise 4: a line that acts type stands there.
func TestTypedLinesStandThere(t *testing.T) {
	r := rand.New(rand.NewSource(7))
	full := 0
	for range 5000 {
		c, line := drawCarriage(r), drawText(r, "ab  z~!", 16)
		bare := strings.TrimRight(line, " ")
		acts, code := impl.ActsForLine(c, line)
		if int64(len(bare))*2 > c.Right-c.Left {
			full++
			is(t, "no room", all(acts, code), []int{}, impl.ErrFull)
			continue
		}
		if code != impl.OK || len(acts) != len(bare) {
			t.Fatal(c, line, acts, code)
		}
		list, place, code := impl.TypeActs(c, acts)
		is(t, "the place behind the line", all(place, code), c.Left+2*int64(len(bare)), impl.OK)
		typed, code := impl.LineOf(c, list)
		is(t, "the line", all(typed, code), bare, impl.OK)
		half, code := impl.HalfShifted(c, list)
		is(t, "whole spaces only", all(half, code), false, impl.OK)
		places, code := impl.OvertypedPlaces(list)
		is(t, "nothing overtyped", all(places, code), []int{}, impl.OK)
	}
	if full < 500 {
		t.Fatal("too few lines without room", full)
	}
}

// slowCarriage does acts half space by half space.
type slowCarriage struct {
	impl.Carriage
	place, bells, stopped int64
	free                  bool
	letters               map[int64]string // of each place, in order
	list                  []impl.Struck
}

// step goes on by some half spaces and rings at the place of the bell; it reports false, and stays, if one of them is not there.
func (s *slowCarriage) step(halves int64) bool {
	place, bells := s.place, s.bells
	for range halves {
		if s.place == impl.MaxHalf || s.place == s.Right && !s.free {
			s.place, s.bells = place, bells
			return false
		}
		if s.place++; s.place == s.Bell {
			s.bells++
		}
	}
	return true
}

func typeSlowly(c impl.Carriage, acts []impl.Act) slowCarriage {
	s := slowCarriage{Carriage: c, place: c.Left, stopped: -1, letters: map[int64]string{}}
	for i, a := range acts {
		place, ok := s.place, true
		switch a.Kind {
		case impl.ActType:
			if ok = s.step(2); ok {
				s.letters[place] += a.Letter
				s.list = append(s.list, impl.Struck{Place: place, Letter: a.Letter})
			}
		case impl.ActSpace:
			ok = s.step(2)
		case impl.ActHalf:
			ok = s.step(1)
		case impl.ActBack:
			for range 2 {
				if s.place > 0 {
					s.place--
				}
			}
		case impl.ActFree:
			s.free = true
		case impl.ActReturn:
			s.place, s.free = c.Left, false
		}
		if !ok {
			s.stopped = int64(i)
			break
		}
	}
	return s
}

// Promise 4: acts that are stopped are told.
func TestStoppedActsAreTold(t *testing.T) {
	r := rand.New(rand.NewSource(8))
	stopped, rung := 0, 0
	for range 5000 {
		c, list := drawCarriage(r), acts(drawText(r, "abcd     <<++[]", 40))
		if r.Intn(3) == 0 {
			list = append(acts("["), append(list, acts(strings.Repeat("a ", r.Intn(80)))...)...)
		}
		s := typeSlowly(c, list)
		if s.bells > 0 {
			rung++
		}
		bells, code := impl.BellsOf(c, list)
		is(t, "the bells", all(bells, code), s.bells, impl.OK)
		at, code := impl.LockedAt(c, list)
		typed, place, typedCode := impl.TypeActs(c, list)
		if s.stopped >= 0 {
			stopped++
			is(t, "a stopped act", all(at, code), s.stopped, impl.OK)
			is(t, "a stopped act", all(typed, place, typedCode), []int{}, 0, impl.ErrState)
			continue
		}
		is(t, "no stopped act", all(at, code), 0, impl.ErrNotFound)
		is(t, "no stopped act", all(typed, place, typedCode), s.list, s.place, impl.OK)
		lineIsThis(t, s)
	}
	if stopped < 500 || stopped > 4000 || rung < 1000 {
		t.Fatal("too few lists of a kind", stopped, rung)
	}
}

// lineIsThis compares what is told of a typed line with its places, one after the other.
func lineIsThis(t *testing.T, s slowCarriage) {
	t.Helper()
	var over []int64
	half, whole, line := false, true, ""
	for place := range int64(impl.MaxHalf + 1) {
		letters := s.letters[place]
		odd := (place+s.Left)%2 != 0
		if len(letters) > 1 {
			over = append(over, place)
		}
		half = half || odd && letters != ""
		whole = whole && (letters == "" || len(letters) == 1 && !odd && place >= s.Left)
		if place >= s.Left && !odd {
			line += (letters + " ")[:1]
		}
	}
	places, code := impl.OvertypedPlaces(s.list)
	is(t, "overtyped places", all(places, code), over, impl.OK)
	got, code := impl.HalfShifted(s.Carriage, s.list)
	is(t, "half shifted", all(got, code), half, impl.OK)
	text, code := impl.LineOf(s.Carriage, s.list)
	if whole {
		is(t, "the line", all(text, code), strings.TrimRight(line, " "), impl.OK)
	} else if text != "" || code != impl.ErrFormat && code != impl.ErrClash {
		t.Error("no line", text, code)
	}
}

// Promise 1 for chapter 4.
func TestCarriagesArePure(t *testing.T) {
	n := oddNumbers()
	carriages := append(wrongCarriages(), smallCarriage(), impl.Carriage{Right: 300}, impl.Carriage{Left: 280, Right: 300, Bell: 290})
	actLists := append(wrongActs(), nil, acts("ab c<+d[e]f"), acts("abcdefghijkl"), make([]impl.Act, 1000))
	lines := append(wrongStruck(), nil, struck("abc", 10, 16, 12), struck("abc", 10, 16, 10), struck("abc", 10, 11, 12), make([]impl.Struck, 1000))
	for _, x := range n {
		carriages = append(carriages, impl.Carriage{Left: x, Right: x, Bell: x}, impl.Carriage{Left: x, Right: 30, Bell: 20}, impl.Carriage{Left: 0, Right: x, Bell: x}, impl.Carriage{Left: x, Right: -x})
		actLists = append(actLists, []impl.Act{{Kind: x}, {Kind: x, Letter: "a"}}, []impl.Act{{Kind: x}})
		lines = append(lines, struck("ab", x, 12), []impl.Struck{{Place: x, Letter: "ab"}})
	}
	for _, text := range oddTexts() {
		actLists = append(actLists, []impl.Act{{Letter: text}}, []impl.Act{{Kind: impl.ActBack, Letter: text}})
		lines = append(lines, []impl.Struck{{Place: 12, Letter: text}})
	}
	for _, c := range carriages {
		isPure(t, "ValidCarriage", func() []any { return all(impl.ValidCarriage(c)) })
		for _, l := range actLists {
			actCallsArePure(t, c, l)
		}
		for _, l := range lines {
			lineCallsArePure(t, c, l)
		}
		for _, line := range oddTexts() {
			isCoded(t, "ActsForLine", func() []any { list, code := impl.ActsForLine(c, line); return all(list, code) })
		}
	}
}

func actCallsArePure(t *testing.T, c impl.Carriage, acts []impl.Act) {
	t.Helper()
	list, same := watched(acts)
	isPure(t, "ValidActs", func() []any { return all(impl.ValidActs(list)) }, same)
	isPure(t, "ActText", func() []any { return all(impl.ActText(list)) }, same)
	isCoded(t, "TypeActs", func() []any {
		typed, place, code := impl.TypeActs(c, list)
		return all(typed, place, code)
	}, same)
	isCoded(t, "BellsOf", func() []any { bells, code := impl.BellsOf(c, list); return all(bells, code) }, same)
	isCoded(t, "LockedAt", func() []any { at, code := impl.LockedAt(c, list); return all(at, code) }, same)
}

func lineCallsArePure(t *testing.T, c impl.Carriage, line []impl.Struck) {
	t.Helper()
	list, same := watched(line)
	other, sameOther := watched(line)
	isPure(t, "SameStruck", func() []any { return all(impl.SameStruck(list, other)) }, same, sameOther)
	isCoded(t, "OvertypedPlaces", func() []any { places, code := impl.OvertypedPlaces(list); return all(places, code) }, same)
	isCoded(t, "LineOf", func() []any { text, code := impl.LineOf(c, list); return all(text, code) }, same)
	isPure(t, "HalfShifted", func() []any { half, code := impl.HalfShifted(c, list); return all(half, code) }, same)
}
