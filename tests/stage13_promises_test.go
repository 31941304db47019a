package tests

import (
	"cmp"
	"fmt"
	"math/rand"
	"reflect"
	"slices"
	"strings"
	"testing"

	"loop.example/g01045/impl"
)

// slowKind looks a letter up in all faults of a machine.
func slowKind(w impl.Writer, letter string) int64 {
	for _, f := range w.Faults {
		if f.Letter == letter {
			return f.Kind
		}
	}
	return 0
}

// allLetters returns all letters that a type may have, in ascending order.
func allLetters() []string {
	var list []string
	for b := '!'; b <= '~'; b++ {
		list = append(list, string(b))
	}
	return list
}

// someLetters returns the letters for which this holds.
func someLetters(holds func(letter string) bool) []string {
	var list []string
	for _, letter := range allLetters() {
		if holds(letter) {
			list = append(list, letter)
		}
	}
	return list
}

// apartSlowly returns the letters whose kinds are different for a and b.
func apartSlowly(a, b impl.Writer) []string {
	return someLetters(func(letter string) bool { return slowKind(a, letter) != slowKind(b, letter) })
}

// tellApart reports whether each two machines differ in one of some letters.
func tellApart(list []impl.Writer, letters []string) bool {
	for i, a := range list {
		for _, b := range list[:i] {
			isSame := func(letter string) bool { return slowKind(a, letter) == slowKind(b, letter) }
			if !slices.ContainsFunc(letters, func(letter string) bool { return !isSame(letter) }) {
				return false
			}
		}
	}
	return true
}

// firstChoice returns the first list of many more of some letters, in ascending order, that with those chosen tells machines apart.
func firstChoice(list []impl.Writer, chosen, letters []string, many int) ([]string, bool) {
	if many == 0 {
		return slices.Clone(chosen), tellApart(list, chosen)
	}
	for i, letter := range letters {
		more := append(slices.Clone(chosen), letter)
		if found, ok := firstChoice(list, more, letters[i+1:], many-1); ok {
			return found, true
		}
	}
	return nil, false
}

// fewestSlowly returns the fewest letters that tell machines apart, and the code.
func fewestSlowly(list []impl.Writer) ([]string, int64) {
	differ := someLetters(func(letter string) bool {
		isOther := func(w impl.Writer) bool { return slowKind(w, letter) != slowKind(list[0], letter) }
		return slices.ContainsFunc(list, isOther)
	})
	if !tellApart(list, allLetters()) {
		return nil, impl.ErrClash
	}
	if len(differ) > impl.MaxTelling {
		return nil, impl.ErrFull
	}
	for many := 0; ; many++ {
		if found, ok := firstChoice(list, nil, differ, many); ok {
			return found, impl.OK
		}
	}
}

// rareSlowly goes through all letters and kinds.
func rareSlowly(list []impl.Writer) []impl.TypeFault {
	var rare []impl.TypeFault
	for _, letter := range allLetters() {
		for kind := int64(1); kind <= 6; kind++ {
			many := 0
			for _, w := range list {
				if slowKind(w, letter) == kind {
					many++
				}
			}
			if many == 1 {
				rare = append(rare, impl.TypeFault{Letter: letter, Kind: kind})
			}
		}
	}
	return rare
}

// machinesAreTold checks what is told of machines: the letters apart of each two, the fewest ones, and the rare faults. It returns the code of FewestLetters and how many letters it has.
func machinesAreTold(t *testing.T, list []impl.Writer) (int64, int) {
	t.Helper()
	for i, a := range list {
		b := list[(i+1)%len(list)]
		letters, code := impl.LettersApart(a, b)
		if !slices.Equal(letters, apartSlowly(a, b)) || code != impl.OK {
			t.Fatal("letters apart", a, b, letters, code)
		}
	}
	want, wantCode := fewestSlowly(list)
	letters, code := impl.FewestLetters(list)
	if !slices.Equal(letters, want) || code != wantCode {
		t.Fatal("fewest letters", list, letters, code, want, wantCode)
	}
	rare, rareCode := impl.RareFaults(list)
	if !slices.Equal(rare, rareSlowly(list)) || rareCode != impl.OK {
		t.Fatal("rare faults", list, rare, rareCode)
	}
	return code, len(letters)
}

// smallFaults returns all faults of these letters with few kinds, as writer takes them.
func smallFaults(letters string, kinds int) []string {
	texts := []string{""}
	for _, letter := range strings.Split(letters, "") {
		for _, before := range slices.Clone(texts) {
			for kind := range kinds {
				texts = append(texts, before+letter+fmt.Sprint(kind+1))
			}
		}
	}
	return texts
}

// eachWriters gives all lists of so many of some faults.
func eachWriters(faults []string, many int, see func(list []impl.Writer)) {
	chosen := make([]string, many)
	var choose func(at int)
	choose = func(at int) {
		if at == many {
			see(writers(chosen...))
			return
		}
		for _, f := range faults {
			chosen[at] = f
			choose(at + 1)
		}
	}
	choose(0)
}

// Promise 15: the fewest letters tell all machines apart, for all small lists.
func TestFewestLettersOfSmallLists(t *testing.T) {
	codes := map[int64]int{}
	see := func(list []impl.Writer) {
		code, _ := machinesAreTold(t, list)
		codes[code]++
	}
	for _, c := range []struct {
		letters     string
		kinds, many int
	}{
		{"abc", 2, 1}, {"abc", 2, 2}, {"ab", 2, 3}, {"abcd", 1, 3}, {"ab", 1, 4}, {"ab", 1, 5}, {"a", 6, 3},
	} {
		eachWriters(smallFaults(c.letters, c.kinds), c.many, see)
	}
	if codes[impl.OK] < 3000 || codes[impl.ErrClash] < 500 {
		t.Fatal("too few of a sort", codes)
	}
}

// drawWriter returns a machine with faults of some letters, with kinds up to most.
func drawWriter(r *rand.Rand, name, letters string, faults int, most int64) impl.Writer {
	w := impl.Writer{Name: name}
	for _, at := range r.Perm(len(letters))[:min(len(letters), faults)] {
		w.Faults = append(w.Faults, impl.TypeFault{Letter: letters[at : at+1], Kind: 1 + r.Int63n(most)})
	}
	slices.SortFunc(w.Faults, func(a, b impl.TypeFault) int { return cmp.Compare(a.Letter, b.Letter) })
	return w
}

// drawWriters returns machines with faults of few or of many letters, some of which may have the same faults.
func drawWriters(r *rand.Rand) []impl.Writer {
	letters := []string{"abcde", "!AZaz~", "abcdefghijklmnop", "abcdefghijklmnopq", strings.Join(allLetters(), "")}[r.Intn(5)]
	most, few := 1+r.Int63n(6), 1+r.Intn(10)
	var list []impl.Writer
	for i := range 1 + r.Intn(12) {
		w := drawWriter(r, fmt.Sprint("w-", i), letters, r.Intn(few+1), most)
		if i > 0 && r.Intn(30) == 0 {
			w.Faults = slices.Clone(list[r.Intn(i)].Faults)
		}
		list = append(list, w)
	}
	return list
}

// Promise 15: the fewest letters tell all machines apart, for drawn lists.
func TestFewestLettersOfDrawnLists(t *testing.T) {
	r := rand.New(rand.NewSource(71))
	codes, sizes := map[int64]int{}, make([]int, 17)
	for range 4000 {
		code, many := machinesAreTold(t, drawWriters(r))
		codes[code]++
		if code == impl.OK {
			sizes[many]++
		}
	}
	if codes[impl.ErrClash] < 200 || codes[impl.ErrFull] < 200 || slices.Min(sizes[:6]) < 30 {
		t.Fatal("too few of a sort", codes, sizes)
	}
}

// Promise 15: no letter of the fewest ones can be left out, and with them alone, each two machines show different pages.
func TestNoLetterCanBeLeftOut(t *testing.T) {
	r := rand.New(rand.NewSource(72))
	told := 0
	for range 3000 {
		list := drawWriters(r)
		letters, code := impl.FewestLetters(list)
		if code != impl.OK {
			continue
		}
		told++
		pages := map[string]bool{}
		for _, w := range list {
			elements, code := impl.TypePage(w, strings.Join(letters, " "))
			pages[fmt.Sprint(elements)] = true
			is(t, "the page", all(len(elements), code), len(letters), impl.OK)
		}
		if len(pages) != len(list) {
			t.Fatal("the same pages", list, letters, pages)
		}
		for i := range letters {
			if tellApart(list, slices.Delete(slices.Clone(letters), i, i+1)) {
				t.Fatal("a letter too many", list, letters, i)
			}
		}
	}
	if told < 500 {
		t.Fatal("too few", told)
	}
}

// Promise 15: a page has no contradiction with its own machine, and one with each machine for each letter that is different there.
func TestPagesFitToTheirMachines(t *testing.T) {
	r := rand.New(rand.NewSource(73))
	own, others := 0, 0
	for range 1000 {
		list := drawWriters(r)
		text := drawText(r, []string{"abcde  ", "!AZaz~ ", " abcdefghijklmnopq", strings.Join(allLetters(), "")}[r.Intn(4)], 60)
		at := r.Intn(len(list))
		elements, code := impl.TypePage(list[at], text)
		is(t, "TypePage", all(len(elements), code), len(strings.ReplaceAll(text, " ", "")), impl.OK)
		is(t, "ValidSeen", all(impl.ValidSeen(elements)), true)
		for i, w := range list {
			want := int64(0)
			for _, letter := range strings.Split(strings.ReplaceAll(text, " ", ""), "") {
				if slowKind(w, letter) != slowKind(list[at], letter) {
					want++
				}
			}
			many, code := impl.ContradictionsOf(w, elements)
			is(t, fmt.Sprint("contradictions ", w, elements), all(many, code), want, impl.OK)
			if i == at {
				is(t, "contradictions with its own machine", all(many), 0)
			} else if many > 0 {
				others++
			}
		}
		best, fewest, code := impl.BestWriters(list, elements)
		is(t, "the own machine is one of the best", all(slices.Contains(best, int64(at)), fewest, code), true, 0, impl.OK)
		if len(best) == 1 && len(list) > 1 {
			own++
		}
	}
	if own < 200 || others < 200 {
		t.Fatal("too few of a sort", own, others)
	}
}

// Promise 15: the pages of all short texts have no contradiction with their own machine, and show the kinds that are told for their letters.
func TestPagesOfShortTexts(t *testing.T) {
	for _, w := range append(writers(smallFaults("ab", 6)...), rightWriters()...) {
		eachText("ab ~", 4, func(text string) {
			var want []impl.Seen
			for _, letter := range strings.Split(strings.ReplaceAll(text, " ", ""), "") {
				kind, code := impl.KindOf(w, letter)
				if kind != slowKind(w, letter) || code != impl.OK {
					t.Fatal("KindOf", w, letter, kind, code)
				}
				want = append(want, impl.Seen{Letter: letter, Kind: kind})
			}
			elements, one := impl.TypePage(w, text)
			many, two := impl.ContradictionsOf(w, elements)
			letters, three := impl.ContraryLetters(elements)
			if !slices.Equal(elements, want) || many != 0 || len(letters) != 0 || one+two+three != impl.OK {
				t.Fatal(w, text, elements, one, many, two, letters, three)
			}
		})
	}
}

// contradictionsSlowly counts the elements of a page whose kind is another one.
func contradictionsSlowly(w impl.Writer, elements []impl.Seen) int64 {
	many := int64(0)
	for _, s := range elements {
		if slowKind(w, s.Letter) != s.Kind {
			many++
		}
	}
	return many
}

// contrarySlowly compares each two elements of a page.
func contrarySlowly(elements []impl.Seen) []string {
	return someLetters(func(letter string) bool {
		for _, a := range elements {
			for _, b := range elements {
				if a.Letter == letter && b.Letter == letter && a.Kind != b.Kind {
					return true
				}
			}
		}
		return false
	})
}

// pageIsTold checks what is told of a page and machines. It returns the indices of the best ones, and how many letters are contrary.
func pageIsTold(t *testing.T, list []impl.Writer, elements []impl.Seen) ([]int64, int) {
	t.Helper()
	var many []int64
	for _, w := range list {
		n, code := impl.ContradictionsOf(w, elements)
		if n != contradictionsSlowly(w, elements) || code != impl.OK {
			t.Fatal("contradictions", w, elements, n, code)
		}
		many = append(many, n)
	}
	var want []int64
	for i, n := range many {
		if n == slices.Min(many) {
			want = append(want, int64(i))
		}
	}
	best, fewest, code := impl.BestWriters(list, elements)
	if !slices.Equal(best, want) || fewest != slices.Min(many) || code != impl.OK {
		t.Fatal("best machines", list, elements, best, fewest, code)
	}
	letters, code := impl.ContraryLetters(elements)
	if !slices.Equal(letters, contrarySlowly(elements)) || code != impl.OK {
		t.Fatal("contrary letters", elements, letters, code)
	}
	return best, len(letters)
}

// Chapter 15: all small pages, and all lists of two small machines.
func TestSmallPagesOfMachines(t *testing.T) {
	var pages [][]impl.Seen
	eachText("abcdef", 3, func(text string) {
		var elements []impl.Seen
		for _, b := range []byte(text) { // two letters with three kinds
			elements = append(elements, impl.Seen{Letter: string('a' + (b-'a')/3), Kind: int64(b-'a') % 3})
		}
		pages = append(pages, elements)
	})
	eachWriters(smallFaults("ab", 2), 2, func(list []impl.Writer) {
		for _, elements := range pages {
			pageIsTold(t, list, elements)
		}
	})
}

// drawSeen returns a page whose elements are often those of a machine, and often not.
func drawSeen(r *rand.Rand, w impl.Writer, letters string) []impl.Seen {
	var elements []impl.Seen
	wrong := 1 + r.Intn(10)
	for range r.Intn(61) {
		letter := string(letters[r.Intn(len(letters))])
		s := impl.Seen{Letter: letter, Kind: slowKind(w, letter)}
		if r.Intn(wrong) == 0 {
			s.Kind = r.Int63n(7)
		}
		elements = append(elements, s)
	}
	return elements
}

// Chapter 15: drawn pages and machines.
func TestDrawnPagesOfMachines(t *testing.T) {
	r := rand.New(rand.NewSource(74))
	var one, several, contrary, clear int
	for range 2000 {
		list := drawWriters(r)
		letters := []string{"abc", "!AZaz~", strings.Join(allLetters(), "")}[r.Intn(3)]
		best, many := pageIsTold(t, list, drawSeen(r, list[r.Intn(len(list))], letters))
		if len(list) > 1 && len(best) == 1 {
			one++
		} else if len(list) > 1 && len(best) < len(list) {
			several++
		}
		if many > 0 {
			contrary++
		} else {
			clear++
		}
	}
	if min(one, several, contrary, clear) < 200 {
		t.Fatal("too few of a sort", one, several, contrary, clear)
	}
}

// watchedWriters is watched for machines, of which each has unused capacity for faults.
func watchedWriters(list []impl.Writer) ([]impl.Writer, func() bool) {
	var rows [][]impl.TypeFault
	for _, w := range list {
		rows = append(rows, w.Faults)
	}
	table, sameFaults := watchedTable(rows, impl.TypeFault{Letter: "q", Kind: 3})
	copied := make([]impl.Writer, len(list), len(list)+2)
	for i, w := range list {
		copied[i] = impl.Writer{Name: w.Name, Faults: table[i]}
	}
	full := copied[:cap(copied)]
	before := slices.Clone(full)
	return copied, func() bool { return sameFaults() && reflect.DeepEqual(full, before) }
}

// listCallsArePure checks all functions of chapter 15 on a list of machines.
func listCallsArePure(t *testing.T, list []impl.Writer, elements []impl.Seen) {
	t.Helper()
	list, sameList := watchedWriters(list)
	elements, samePage := watched(elements)
	isPure(t, "ValidWriters", func() []any { return all(impl.ValidWriters(list)) }, sameList)
	isPure(t, "ValidSeen", func() []any { return all(impl.ValidSeen(elements)) }, samePage)
	isCoded(t, "BestWriters", func() []any {
		best, fewest, code := impl.BestWriters(list, elements)
		return all(best, fewest, code)
	}, sameList, samePage)
	isCoded(t, "ContraryLetters", func() []any { letters, code := impl.ContraryLetters(elements); return all(letters, code) }, samePage)
	isCoded(t, "FewestLetters", func() []any { letters, code := impl.FewestLetters(list); return all(letters, code) }, sameList)
	isCoded(t, "RareFaults", func() []any { rare, code := impl.RareFaults(list); return all(rare, code) }, sameList)
}

// writerCallsArePure checks all functions of chapter 15 on one machine or two ones.
func writerCallsArePure(t *testing.T, w, other impl.Writer, letter, text string, elements []impl.Seen) {
	t.Helper()
	list, same := watchedWriters([]impl.Writer{w, other})
	elements, samePage := watched(elements)
	w, other = list[0], list[1]
	isCoded(t, "KindOf", func() []any { kind, code := impl.KindOf(w, letter); return all(kind, code) }, same)
	isCoded(t, "TypePage", func() []any { elements, code := impl.TypePage(w, text); return all(elements, code) }, same)
	isCoded(t, "ContradictionsOf", func() []any { many, code := impl.ContradictionsOf(w, elements); return all(many, code) }, same, samePage)
	isCoded(t, "LettersApart", func() []any { letters, code := impl.LettersApart(w, other); return all(letters, code) }, same)
	isCoded(t, "LettersApart of one", func() []any { letters, code := impl.LettersApart(w, w); return all(letters, code) }, same)
}

// Promise 1 for chapter 15.
func TestFacesArePure(t *testing.T) {
	right := writer("adler", "e1r1")
	for _, w := range append(rightWriters(), wrongWriters()...) {
		writerCallsArePure(t, w, right, "e", "e r", page("e1r0e0"))
		writerCallsArePure(t, right, w, "e", "e r", page("e1r0e0"))
		listCallsArePure(t, []impl.Writer{w}, page("e1r0e0"))
		listCallsArePure(t, []impl.Writer{writer("x-1", "s1"), w, writer("x-2", "e2")}, page("e1r0e0"))
		listCallsArePure(t, repeated(w, 13), page("e1r0e0"))
	}
	for _, text := range append(oddTexts(), noLetters()...) {
		writerCallsArePure(t, right, right, text, text, []impl.Seen{{Letter: text, Kind: 1}})
		listCallsArePure(t, []impl.Writer{{Name: text}, {Name: "b", Faults: []impl.TypeFault{{Letter: text, Kind: 1}}}}, page("e1"))
	}
	for _, n := range append(oddNumbers(), 4, 5, 6, 7) {
		elements := []impl.Seen{{Letter: "e", Kind: n}, {Letter: "e", Kind: 1}}
		listCallsArePure(t, []impl.Writer{{Name: "odd", Faults: []impl.TypeFault{{Letter: "e", Kind: n}}}}, elements)
		writerCallsArePure(t, right, right, "e", "e", elements)
	}
	listCallsArePure(t, nil, nil)
	listCallsArePure(t, rightWriters(), page(faulty(x(61), 1)))
	r := rand.New(rand.NewSource(75))
	for range 500 {
		list := drawWriters(r)
		elements := drawSeen(r, list[0], "abcdez~!")
		listCallsArePure(t, list, elements)
		writerCallsArePure(t, list[0], list[len(list)-1], drawText(r, "abc", 2), drawText(r, "abc~ ", 60), elements)
	}
}
