package tests

import (
	"math/rand"
	"slices"
	"strings"
	"testing"

	"loop.example/g01045/impl"
)

// faultSlowly looks back over the whole text at each byte.
func faultSlowly(s string) (int64, int64) {
	for i := range len(s) {
		before := s[:i]
		row := before[strings.LastIndex(before, "/")+1:]
		switch c := s[i : i+1]; {
		case c == "/" && (row == "" || strings.Count(before, "/") == 3):
			return 1, int64(i)
		case c == "/":
		case c <= " " || c >= "\x7f":
			return 2, int64(i)
		case strings.Contains(before, c):
			return 3, int64(i)
		case len(row) == 12:
			return 4, int64(i)
		}
	}
	if s == "" || strings.HasSuffix(s, "/") {
		return 1, int64(len(s))
	}
	return 0, 0
}

// drawLayoutText returns a text of different letters in rows, which often has a fault.
func drawLayoutText(r *rand.Rand) string {
	letters := strings.Split("abcdefghijklmnopqrstuvwxyzABCDEFGHIJKLMNOPQRSTUVWXYZ!~.,+-", "")
	r.Shuffle(len(letters), func(i, k int) { letters[i], letters[k] = letters[k], letters[i] })
	var rows []string
	for range 1 + r.Intn(5)*r.Intn(5)/4 {
		n := 1 + r.Intn(5)
		if r.Intn(8) == 0 {
			n = 11 + r.Intn(3)
		}
		n = min(n, len(letters))
		rows, letters = append(rows, strings.Join(letters[:n], "")), letters[n:]
	}
	text := []byte(strings.Join(rows, "/"))
	if r.Intn(2) == 0 {
		wrong := []byte{' ', 127, 255, 0, '/', '/', '/', text[r.Intn(len(text))], text[0]}
		at := r.Intn(len(text) + 1)
		text = slices.Insert(text, at, wrong[r.Intn(len(wrong))])
	}
	return string(text)
}

// Chapter 6: the first fault of a text is told, and a text without one is that of its layout.
func TestFaultsOfDrawnTexts(t *testing.T) {
	r := rand.New(rand.NewSource(14))
	var told [5]int
	for range 20000 {
		text := drawLayoutText(r)
		want, wantAt := faultSlowly(text)
		told[want]++
		fault, at := impl.LayoutFault(text)
		is(t, "the fault of "+text, all(fault, at), want, wantAt)
		x, ok := impl.ReadLayout(text)
		is(t, "read", all(ok, impl.ValidLayout(layout(text))), want == 0, want == 0)
		if ok {
			is(t, "written", all(x, impl.ValidLayout(x), impl.LayoutText(x)), layout(text), true, text)
		} else {
			is(t, "refused", all(x, impl.LayoutText(layout(text))), impl.Layout{}, "")
		}
	}
	if slices.Min(told[:]) < 300 {
		t.Fatal("too few texts of a kind", told)
	}
}

// exchanged returns a text with two bytes exchanged.
func exchanged(s string, a, b byte) string {
	return strings.Map(func(r rune) rune {
		switch r {
		case rune(a):
			return rune(b)
		case rune(b):
			return rune(a)
		}
		return r
	}, s)
}

// stepsFrom returns, for each text that exchanges of two letters lead to from start, the least number of them, found step by step.
func stepsFrom(start string) map[string]int {
	steps := map[string]int{start: 0}
	for queue := []string{start}; len(queue) > 0; queue = queue[1:] {
		for i := range start {
			for k := range i {
				if start[i] == '/' || start[k] == '/' {
					continue
				}
				next := exchanged(queue[0], start[i], start[k])
				if _, known := steps[next]; !known {
					steps[next] = steps[queue[0]] + 1
					queue = append(queue, next)
				}
			}
		}
	}
	return steps
}

// planLeadsTo does the exchanges that are told one after the other, and fails the test unless they lead from a to b, each one by the document's rule.
func planLeadsTo(t *testing.T, a, b string) {
	t.Helper()
	plan, code := impl.ExchangePlan(layout(a), layout(b))
	if code != impl.OK {
		t.Fatal(a, b, plan, code)
	}
	x, steps := layout(a), plan
	for i := range a {
		now := impl.LayoutText(x)
		if now[i] == b[i] {
			continue
		}
		if len(steps) == 0 || steps[0] != now[i:i+1]+b[i:i+1] {
			t.Fatalf("from %s to %s, at the byte %d: %v, not %s%s", a, b, i, plan, now[i:i+1], b[i:i+1])
		}
		x, code = impl.ExchangeLetters(x, steps[0][1:], steps[0][:1])
		is(t, "an exchange", all(impl.LayoutText(x), code), exchanged(now, now[i], b[i]), impl.OK)
		steps = steps[1:]
	}
	is(t, "the plan from "+a, all(x, len(steps)), layout(b), 0)
	n, code := impl.FewestExchanges(layout(a), layout(b))
	is(t, "as many as the plan has", all(n, code), len(plan), impl.OK)
}

// Promise 6: the exchanges that are told lead to the other layout, and no fewer ones do.
func TestPlansAreTheFewestExchanges(t *testing.T) {
	for letters, starts := range map[int][]string{1: {"a"}, 2: {"ba", "a/b"}, 3: {"abc", "c/ab", "b/a/c"}, 4: {"abcd", "d/a/c/b"}, 5: {"abcde", "ac/bde", "e/dc/b/a"}, 6: {"fa/bd/ec"}} {
		for _, start := range starts {
			steps := stepsFrom(start)
			if len(steps) != len(arrangementsSlowly(letters)) {
				t.Fatal(start, len(steps))
			}
			for other, want := range steps {
				planLeadsTo(t, start, other)
				n, code := impl.FewestExchanges(layout(start), layout(other))
				is(t, "the fewest from "+start+" to "+other, all(n, code), want, impl.OK)
			}
		}
	}
}

// shuffled returns the text of a layout with some of its letters in another order.
func shuffled(r *rand.Rand, text string) string {
	letters := []byte(strings.ReplaceAll(text, "/", ""))
	for range r.Intn(2 * len(letters)) {
		i, k := r.Intn(len(letters)), r.Intn(len(letters))
		letters[i], letters[k] = letters[k], letters[i]
	}
	other := []byte(text)
	for i := range other {
		if other[i] != '/' {
			other[i], letters = letters[0], letters[1:]
		}
	}
	return string(other)
}

// spotSlowly returns the row and the column of a letter of the text of a layout.
func spotSlowly(text, letter string) (int64, int64) {
	before, _, _ := strings.Cut(text, letter)
	return int64(strings.Count(before, "/")), int64(len(before) - 1 - strings.LastIndex(before, "/"))
}

// Promise 6, and what is told of two layouts beside the exchanges.
func TestDrawnLayoutsCompared(t *testing.T) {
	r := rand.New(rand.NewSource(15))
	compared := 0
	for range 4000 {
		a := drawLayoutText(r)
		if !impl.ValidLayout(layout(a)) {
			continue
		}
		compared++
		b := shuffled(r, a)
		planLeadsTo(t, a, b)
		planLeadsTo(t, b, a)
		moved, distance := "", int64(0)
		for c := byte(33); c <= 126; c++ {
			letter := string([]byte{c})
			if letter == "/" || !strings.Contains(a, letter) {
				_, _, code := impl.SpotOfLetter(layout(a), letter)
				is(t, "not there", all(code), impl.ErrNotFound)
				continue
			}
			row, column := spotSlowly(a, letter)
			toldRow, toldColumn, code := impl.SpotOfLetter(layout(a), letter)
			is(t, "a spot", all(toldRow, toldColumn, code), row, column, impl.OK)
			otherRow, otherColumn := spotSlowly(b, letter)
			if row != otherRow || column != otherColumn {
				moved += letter
			}
			distance += max(row, otherRow) - min(row, otherRow) + max(column, otherColumn) - min(column, otherColumn)
		}
		for _, pair := range [][2]string{{a, b}, {b, a}} {
			told, code := impl.MovedLetters(layout(pair[0]), layout(pair[1]))
			is(t, "moved letters", all(told, code), moved, impl.OK)
			sum, code := impl.DistanceOf(layout(pair[0]), layout(pair[1]))
			is(t, "the distance", all(sum, code), distance, impl.OK)
		}
		is(t, "equal", all(impl.SameLayout(layout(a), layout(b))), moved == "")
		mirrorsAndShares(t, r, a)
	}
	if compared < 1000 {
		t.Fatal("too few layouts", compared)
	}
}

// mirrorsAndShares checks what is told of one layout, letter by letter.
func mirrorsAndShares(t *testing.T, r *rand.Rand, a string) {
	t.Helper()
	rows := strings.Split(a, "/")
	mirror, code := impl.MirrorLayout(layout(a))
	is(t, "as many rows", all(len(mirror.Rows), code), len(rows), impl.OK)
	want := make([]int64, len(rows))
	text := drawText(r, strings.ReplaceAll(a, "/", ""), 100)
	for i, row := range rows {
		for k := range row {
			is(t, "a mirrored letter", all(mirror.Rows[i][len(row)-1-k:len(row)-k]), row[k:k+1])
			want[i] += int64(strings.Count(text, row[k:k+1]))
		}
	}
	shares, code := impl.RowShares(layout(a), text)
	is(t, "the shares", all(shares, code), want, impl.OK)
	back, code := impl.MirrorLayout(mirror)
	is(t, "mirrored twice", all(back, code), layout(a), impl.OK)
}

// Promise 1 for chapter 6.
func TestLayoutsArePure(t *testing.T) {
	layouts := append(wrongLayouts(), desk(), fullLayout(), layout("a"), layout("abc"), layout("cab"), layout("ab/c"), layout("trewq/zas/d"))
	letters := []string{"", "q", "d", "y", "/", "a", " ", "qw", "\xff", "é", oddTexts()[len(oddTexts())-1]}
	for _, x := range layouts {
		rows, same := watched(x.Rows)
		a := impl.Layout{Rows: rows}
		layoutCallsArePure(t, a, same)
		for _, letter := range letters {
			isCoded(t, "SpotOfLetter", func() []any {
				row, column, code := impl.SpotOfLetter(a, letter)
				return all(row, column, code)
			}, same)
			for _, other := range letters {
				isCoded(t, "ExchangeLetters", func() []any { y, code := impl.ExchangeLetters(a, letter, other); return all(y.Rows, code) }, same)
			}
		}
		for _, text := range append(oddTexts(), "qwe", "asd", strings.Repeat("a", 100), strings.Repeat("a", 101)) {
			isCoded(t, "RowShares", func() []any { shares, code := impl.RowShares(a, text); return all(shares, code) }, same)
		}
		for _, y := range layouts {
			rows, sameOther := watched(y.Rows)
			comparingIsPure(t, a, impl.Layout{Rows: rows}, same, sameOther)
		}
	}
	for _, text := range slices.Concat(oddTexts(), rightTexts(), wrongTexts()) {
		isPure(t, "LayoutFault", func() []any { fault, at := impl.LayoutFault(text); return all(fault, at) })
		isCoded(t, "ReadLayout", func() []any { x, ok := impl.ReadLayout(text); return all(x.Rows, ok) })
	}
}

// layoutCallsArePure checks the functions that take one layout only.
func layoutCallsArePure(t *testing.T, x impl.Layout, same func() bool) {
	t.Helper()
	isPure(t, "ValidLayout", func() []any { return all(impl.ValidLayout(x)) }, same)
	isPure(t, "LayoutText", func() []any { return all(impl.LayoutText(x)) }, same)
	isCoded(t, "MirrorLayout", func() []any { y, code := impl.MirrorLayout(x); return all(y.Rows, code) }, same)
}

// comparingIsPure checks the functions that take two layouts.
func comparingIsPure(t *testing.T, a, b impl.Layout, unchanged ...func() bool) {
	t.Helper()
	isPure(t, "SameLayout", func() []any { return all(impl.SameLayout(a, b)) }, unchanged...)
	isCoded(t, "MovedLetters", func() []any { moved, code := impl.MovedLetters(a, b); return all(moved, code) }, unchanged...)
	isCoded(t, "FewestExchanges", func() []any { n, code := impl.FewestExchanges(a, b); return all(n, code) }, unchanged...)
	isCoded(t, "ExchangePlan", func() []any { plan, code := impl.ExchangePlan(a, b); return all(plan, code) }, unchanged...)
	isCoded(t, "DistanceOf", func() []any { sum, code := impl.DistanceOf(a, b); return all(sum, code) }, unchanged...)
}
