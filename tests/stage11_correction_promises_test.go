package tests

import (
	"fmt"
	"math/rand"
	"slices"
	"strings"
	"testing"

	"loop.example/g01045/impl"
)

// isRuleSlowly reports whether three texts are different letters.
func isRuleSlowly(x impl.Over) bool {
	for _, s := range []string{x.Under, x.Top, x.Seen} {
		if len(s) != 1 || s < "!" || s > "~" {
			return false
		}
	}
	return x.Under != x.Top && x.Under != x.Seen && x.Top != x.Seen
}

// seenSlowly tries what one sees in the order in which the document tells it; 0 if it cannot be read.
func seenSlowly(rules []impl.Over, under, top byte) byte {
	if under == top {
		return under
	}
	if top == ' ' {
		return under
	}
	if under == ' ' {
		return top
	}
	for _, x := range rules {
		if x.Under == string(rune(under)) && x.Top == string(rune(top)) {
			return x.Seen[0]
		}
	}
	return 0
}

// doSlowly does a plan place by place; false if one cannot be read.
func doSlowly(rules []impl.Over, typed, plan, letters string) (string, bool) {
	line := []byte(typed)
	for i := range line {
		if plan[i] == '#' {
			line[i] = letters[i]
		}
		if plan[i] == '+' {
			line[i] = seenSlowly(rules, line[i], letters[i])
		}
	}
	return string(line), !slices.Contains(line, 0)
}

// drawOvers returns rules of few letters, so that many of them have the same Under and Seen.
func drawOvers(r *rand.Rand, letters string, most int) []impl.Over {
	var rules []impl.Over
	known := map[string]bool{}
	for range r.Intn(3 * most) {
		p := r.Perm(len(letters))
		under, top, seen := letters[p[0]:][:1], letters[p[1]:][:1], letters[p[2]:][:1]
		if !known[under+top] && len(rules) < most {
			known[under+top] = true
			rules = append(rules, over(under, top, seen))
		}
	}
	return rules
}

// Chapter 12: all single rules of some texts, and all pairs of them, are valid or not.
func TestAllShortRules(t *testing.T) {
	texts := []string{"a", "b", "!", "~", " ", "", "ab", "\x1f", "\x7f"}
	var single []impl.Over
	for _, under := range texts {
		for _, top := range texts {
			for _, seen := range texts {
				single = append(single, over(under, top, seen))
			}
		}
	}
	valid := 0
	for _, x := range single {
		is(t, fmt.Sprintf("the rule %q", x), all(impl.ValidOvers([]impl.Over{x})), isRuleSlowly(x))
		is(t, fmt.Sprintf("the text of %q", x), all(impl.OverText(x) != ""), isRuleSlowly(x))
		for _, y := range single {
			want := isRuleSlowly(x) && isRuleSlowly(y) && (x.Under != y.Under || x.Top != y.Top)
			if impl.ValidOvers([]impl.Over{x, y}) != want {
				t.Fatal("two rules", x, y, want)
			}
			if want {
				valid++
			}
		}
	}
	is(t, "valid pairs", all(len(single), valid), 729, 24*22)
}

// Chapter 12: all texts of some bytes are the texts of rules or not, and a rule is read back from its text.
func TestAllShortTextsOfRules(t *testing.T) {
	read := 0
	eachText("<=a~ ", 6, func(text string) {
		want := impl.Over{}
		if len(text) == 5 && text[1] == '<' && text[3] == '=' {
			want = over(text[:1], text[2:3], text[4:])
		}
		isRule := isRuleSlowly(want)
		if !isRule {
			want = impl.Over{}
		}
		x, ok := impl.ReadOver(text)
		if x != want || ok != isRule {
			t.Fatalf("%q: got %q and %v, want %q", text, x, ok, want)
		}
		if ok {
			read++
			is(t, "the text of "+text, all(impl.OverText(x)), text)
		}
	})
	is(t, "texts that are read", all(read), 24)
}

// Chapter 12: what one sees, for all pairs of bytes.
func TestAllBytesOverAllOthers(t *testing.T) {
	r := rand.New(rand.NewSource(49))
	for _, rules := range append(rightOvers(), drawOvers(r, "abcde", 20), drawOvers(r, "!~xyz<=", 20)) {
		for under := byte(32); under < 127; under++ {
			for top := byte(32); top < 127; top++ {
				want, code := "", int64(impl.ErrNotFound)
				if seen := seenSlowly(rules, under, top); seen != 0 {
					want, code = string(rune(seen)), impl.OK
				}
				got, other := impl.SeenOver(rules, string(rune(under)), string(rune(top)))
				if got != want || other != code {
					t.Fatalf("%q over %q with %v: got %q and %d, want %q", top, under, rules, got, other, want)
				}
			}
		}
	}
}

// planSlowly corrects a line place by place, with the first of all bytes that leads to the wanted one.
func planSlowly(rules []impl.Over, typed, want string) (string, string) {
	plan, letters := "", ""
	for i := range len(typed) {
		sign, letter := "#", want[i:i+1]
		for top := byte(126); top >= 32; top-- {
			if seenSlowly(rules, typed[i], top) == want[i] && typed[i] != want[i] {
				sign, letter = "+", string(rune(top))
			}
		}
		if typed[i] == want[i] {
			sign, letter = ".", " "
		}
		plan, letters = plan+sign, letters+letter
	}
	return plan, letters
}

// correctionIsThis checks the plan for two lines of the same length, and what it makes.
func correctionIsThis(t *testing.T, rules []impl.Over, typed, want string) {
	t.Helper()
	plan, letters, code := impl.CorrectionPlan(rules, typed, want)
	slowPlan, slowLetters := planSlowly(rules, typed, want)
	if plan != slowPlan || letters != slowLetters || code != impl.OK {
		t.Fatalf("from %q to %q with %v: got %q, %q and %d, want %q and %q", typed, want, rules, plan, letters, code, slowPlan, slowLetters)
	}
	line, code := impl.ApplyPlan(rules, typed, plan, letters)
	if line != want || code != impl.OK {
		t.Fatalf("%q by %q and %q: got %q and %d", typed, plan, letters, line, code)
	}
	erased := int64(strings.Count(slowPlan, "#"))
	many, code := impl.ErasedIn(plan)
	fewest, other := impl.FewestErased(rules, typed, want)
	if many != erased || fewest != erased || code != impl.OK || other != impl.OK {
		t.Fatal("erased", typed, want, many, fewest, erased, code, other)
	}
}

// Promise 12: a plan makes the wanted line, for all pairs of bytes.
func TestAllBytesAreCorrected(t *testing.T) {
	r := rand.New(rand.NewSource(50))
	for _, rules := range [][]impl.Over{nil, fullOvers(), drawOvers(r, "abcd~", 20)} {
		for typed := byte(32); typed < 127; typed++ {
			for want := byte(32); want < 127; want++ {
				correctionIsThis(t, rules, string(rune(typed)), string(rune(want)))
			}
		}
	}
}

// Promise 12: a plan makes the wanted line, and no place is erased where any letter typed over it would do.
func TestDrawnLinesAreCorrected(t *testing.T) {
	r := rand.New(rand.NewSource(51))
	over, erased := 0, 0
	for i := range 2000 {
		letters := []string{"abc", "abcd", "!~<=", "+.#a"}[i%4]
		rules := drawOvers(r, letters, 20)
		typed := drawText(r, letters+" ", 60)
		want := []byte(typed)
		for k := range want {
			if r.Intn(4) > 0 {
				want[k] = (letters + " ")[r.Intn(len(letters)+1)]
			}
		}
		correctionIsThis(t, rules, typed, string(want))
		plan, _, _ := impl.CorrectionPlan(rules, typed, string(want))
		over += strings.Count(plan, "+")
		erased += strings.Count(plan, "#")
	}
	if over < 8000 || erased < 8000 {
		t.Fatal("too few places", over, erased)
	}
}

// Promise 12: of all plans with all letters, none makes the wanted line and erases fewer places.
func TestNoPlanErasesFewer(t *testing.T) {
	r := rand.New(rand.NewSource(52))
	const bytes = "abc "
	for range 30 {
		rules := drawOvers(r, "abc", 20)
		fewest := map[[2]string]int{}
		eachText(bytes, 2, func(typed string) {
			eachText(".+#", len(typed), func(plan string) {
				eachText(bytes, len(typed), func(letters string) {
					if len(plan) != len(typed) || len(letters) != len(typed) {
						return
					}
					want, code := impl.ApplyPlan(rules, typed, plan, letters)
					if code != impl.OK {
						return
					}
					erased := strings.Count(plan, "#")
					if least, known := fewest[[2]string{typed, want}]; !known || erased < least {
						fewest[[2]string{typed, want}] = erased
					}
				})
			})
		})
		is(t, "pairs of lines", all(len(fewest)), 1+16+256)
		for pair, least := range fewest {
			many, code := impl.FewestErased(rules, pair[0], pair[1])
			is(t, fmt.Sprintf("fewest for %q with %v", pair, rules), all(many, code), least, impl.OK)
		}
	}
}

// Chapter 12: drawn plans with drawn letters, of which many cannot be read.
func TestDrawnPlansOfCorrections(t *testing.T) {
	r := rand.New(rand.NewSource(53))
	done, unread := 0, 0
	for range 20000 {
		rules := drawOvers(r, "abc", 1+r.Intn(6))
		typed := drawText(r, "abc  ", 8)
		plan, letters := "", ""
		for range len(typed) {
			plan += "...+#"[r.Intn(5):][:1]
			letters += "abc  "[r.Intn(5):][:1]
		}
		want, code := "", int64(impl.ErrNotFound)
		if line, isRead := doSlowly(rules, typed, plan, letters); isRead {
			want, code = line, impl.OK
			done++
		} else {
			unread++
		}
		line, other := impl.ApplyPlan(rules, typed, plan, letters)
		if line != want || other != code {
			t.Fatalf("%q by %q and %q with %v: got %q and %d, want %q", typed, plan, letters, rules, line, other, want)
		}
	}
	if done < 5000 || unread < 2000 {
		t.Fatal("too few of a sort", done, unread)
	}
}

// Chapter 12: the places that drawn plans erase too often, counted place by place.
func TestDrawnWornPlaces(t *testing.T) {
	r := rand.New(rand.NewSource(54))
	some := 0
	for i := range 3000 {
		var plans []string
		for range i % 21 {
			plans = append(plans, drawText(r, ".+#", []int{5, 20, 60}[r.Intn(3)]))
		}
		want := []int64{}
		for place := range 60 {
			erase := func(plan string) bool { return strings.HasPrefix((plan + gap(60))[place:], "#") }
			times := len(slices.DeleteFunc(slices.Clone(plans), func(plan string) bool { return !erase(plan) }))
			if times >= 4 {
				want = append(want, int64(place))
			}
		}
		places, code := impl.WornPlaces(plans)
		is(t, fmt.Sprintf("%q", plans), all(places, code), want, impl.OK)
		some += len(want)
	}
	if some < 5000 {
		t.Fatal("too few places", some)
	}
}

// shiftedSlowly returns how many places differ if blanks are typed around both lines.
func shiftedSlowly(typed, want string, shift int) int64 {
	moved := gap(100+shift) + typed + gap(100-shift) + gap(60-len(typed))
	still := gap(100) + want + gap(100) + gap(60-len(want))
	many := int64(0)
	for i := range moved {
		if moved[i] != still[i] {
			many++
		}
	}
	return many
}

// Chapter 12: no shift lets fewer places of drawn lines differ, and none that is told later as few.
func TestDrawnShifts(t *testing.T) {
	r := rand.New(rand.NewSource(55))
	var signs [3]int
	for i := range 1500 {
		bytes := []string{"ab", "ab  ", "a      ", "!~ab"}[i%4]
		want := drawText(r, bytes, []int{6, 30, 60}[r.Intn(3)])
		typed := drawText(r, bytes, []int{6, 30, 60}[r.Intn(3)])
		if r.Intn(3) > 0 {
			typed = gap(r.Intn(8)) + want
			typed = typed[min(len(typed), r.Intn(8)):]
			typed = typed[:min(len(typed), 60)]
		}
		most := []int{0, 1, 2, 5, 30, 60}[r.Intn(6)]
		best, least := 0, shiftedSlowly(typed, want, 0)
		for n := 1; n <= most; n++ {
			for _, shift := range []int{-n, n} {
				if many := shiftedSlowly(typed, want, shift); many < least {
					best, least = shift, many
				}
			}
		}
		shift, many, code := impl.ShiftedMatch(typed, want, int64(most))
		is(t, fmt.Sprintf("%q to %q by %d", typed, want, most), all(shift, many, code), best, least, impl.OK)
		signs[1+min(1, max(-1, best))]++
	}
	if min(signs[0], signs[1], signs[2]) < 200 {
		t.Fatal("too few of a sort", signs)
	}
}

// Chapter 12: the places at which drawn lines differ, filled up with blanks.
func TestDrawnPlacesThatDiffer(t *testing.T) {
	r := rand.New(rand.NewSource(56))
	for range 3000 {
		typed := drawText(r, "aab !~", 60)
		line := []byte(typed + gap(60-len(typed)))
		for range r.Intn(5) {
			line[r.Intn(60)] = "ab !~"[r.Intn(5)]
		}
		text := string(line)
		if r.Intn(2) == 0 {
			text = text[:r.Intn(61)]
		}
		want := []int64{}
		for place := range 60 {
			if (typed + gap(60))[place] != (text + gap(60))[place] {
				want = append(want, int64(place))
			}
		}
		places, code := impl.WrongPlaces(typed, text)
		is(t, fmt.Sprintf("%q and %q", typed, text), all(places, code), want, impl.OK)
		_, many, code := impl.ShiftedMatch(typed, text, 0)
		is(t, "how many", all(many, code), len(want), impl.OK)
	}
}

// correctionCallsArePure checks all functions of chapter 12 on rules and texts.
func correctionCallsArePure(t *testing.T, list []impl.Over, typed, want, plan string, most int64) {
	t.Helper()
	rules, same := watched(list)
	isPure(t, "ValidOvers", func() []any { return all(impl.ValidOvers(rules)) }, same)
	isCoded(t, "SeenOver", func() []any { seen, code := impl.SeenOver(rules, typed, want); return all(seen, code) }, same)
	isCoded(t, "CorrectionPlan", func() []any { p, l, code := impl.CorrectionPlan(rules, typed, want); return all(p, l, code) }, same)
	isCoded(t, "ErasedIn", func() []any { many, code := impl.ErasedIn(plan); return all(many, code) })
	isCoded(t, "ApplyPlan", func() []any { line, code := impl.ApplyPlan(rules, typed, plan, want); return all(line, code) }, same)
	isCoded(t, "FewestErased", func() []any { many, code := impl.FewestErased(rules, typed, want); return all(many, code) }, same)
	isCoded(t, "ShiftedMatch", func() []any { s, many, code := impl.ShiftedMatch(typed, want, most); return all(s, many, code) })
	isCoded(t, "WrongPlaces", func() []any { places, code := impl.WrongPlaces(typed, want); return all(places, code) })
	isCoded(t, "ReadOver", func() []any { x, ok := impl.ReadOver(typed); return all(x, ok) })
	for _, x := range list {
		isPure(t, "OverText", func() []any { return all(impl.OverText(x)) })
	}
	for _, texts := range [][]string{{plan}, {plan, "#", "#", "#", "#"}, repeated(plan, 4), repeated(plan, 20), repeated(plan, 21)} {
		plans, unchanged := watched(texts)
		isCoded(t, "WornPlaces", func() []any { places, code := impl.WornPlaces(plans); return all(places, code) }, unchanged)
	}
}

// Promise 1 for chapter 12.
func TestCorrectionsArePure(t *testing.T) {
	texts := slices.Concat(oddTexts(), noTypedLines(), []string{"c", "/", "cat", "0at", "c</=0", "<<==a", x(60), gap(60), strings.Repeat("c", 60)})
	for _, text := range texts {
		correctionCallsArePure(t, fullOvers(), text, "c", ".+#", 2)
		correctionCallsArePure(t, fullOvers(), "c", text, "+", 60)
		correctionCallsArePure(t, oversOf("c/0"), text, text, "..", 0)
		correctionCallsArePure(t, oversOf("c/0"), "cat", "/  ", text, 1)
		correctionCallsArePure(t, []impl.Over{over("c", "/", text), over(text, "/", "0"), over("c", text, "0")}, "cat", "0at", "+..", 1)
	}
	for _, rules := range append(rightOvers(), wrongOvers()...) {
		correctionCallsArePure(t, rules, "cat", "0at", "+..", 1)
		correctionCallsArePure(t, rules, "c", "/", "+", 1)
	}
	for _, most := range append(oddNumbers(), 59, 60, 61, -60) {
		correctionCallsArePure(t, nil, "cat", " cat", "#..", most)
	}
	for _, plan := range append(noCorrectionPlans(), "", "#.+", strings.Repeat("#", 60)) {
		correctionCallsArePure(t, fullOvers(), "cat", "/  ", plan, 1)
	}
	r := rand.New(rand.NewSource(57))
	for range 200 {
		typed := drawText(r, "abc ", 60)
		plan, letters := strings.Repeat("+", len(typed)), drawOrder(r, typed)
		correctionCallsArePure(t, drawOvers(r, "abc", 20), typed, letters, plan, r.Int63n(61))
	}
}
