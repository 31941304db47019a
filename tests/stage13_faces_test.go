package tests

import (
	"fmt"
	"slices"
	"strings"
	"testing"

	"loop.example/g01045/impl"
)

// writer returns a machine; faults has the letter and the kind of each fault, as in e1r6.
func writer(name, faults string) impl.Writer {
	w := impl.Writer{Name: name}
	for i := 0; i < len(faults); i += 2 {
		w.Faults = append(w.Faults, impl.TypeFault{Letter: faults[i : i+1], Kind: int64(faults[i+1] - '0')})
	}
	return w
}

// writers returns machines with these faults, and with different names.
func writers(faults ...string) []impl.Writer {
	var list []impl.Writer
	for i, f := range faults {
		list = append(list, writer(fmt.Sprint("w-", i), f))
	}
	return list
}

// page returns a page; elements has the letter and the kind of each element, as in e1r0.
func page(elements string) []impl.Seen {
	var list []impl.Seen
	for _, f := range writer("", elements).Faults {
		list = append(list, impl.Seen(f))
	}
	return list
}

// faultsOn returns faults of one kind.
func faultsOn(letters string, kind int64) []impl.TypeFault {
	var list []impl.TypeFault
	for _, letter := range strings.Split(letters, "") {
		list = append(list, impl.TypeFault{Letter: letter, Kind: kind})
	}
	return list
}

// faulty returns the text of faults of one kind, as writer takes it.
func faulty(letters string, kind int) string {
	text := ""
	for _, letter := range strings.Split(letters, "") {
		text += letter + fmt.Sprint(kind)
	}
	return text
}

// noLetters returns texts that are no letters of a type.
func noLetters() []string {
	return []string{"", " ", "ab", "ee", "e ", " e", "\x1f", "\x7f", "\x00", "\x80", "\xff", "é", "\n", "e\x00", x(1000)}
}

// noKinds returns numbers that are no kinds of a fault, and of an element of a page but for 0.
func noKinds() []int64 {
	return []int64{0, -1, 7, 8, -6, 100, 1 << 32, 1<<32 + 1, -1 << 32, -1 << 63, 1<<63 - 1}
}

// noNames returns texts that are no names.
func noNames() []string {
	return []string{"", "Adler", "adleR", "7adler", "-adler", "ad ler", "adler ", " adler", "ad_ler", "a.b", x(13), "é", "a\x00", x(1000)}
}

// wrongWriters returns machines that are not valid.
func wrongWriters() []impl.Writer {
	list := []impl.Writer{{}, writer("many", faulty("abcdefghijk", 1)), writer("many", faulty("ABCDEFGHIJKLMNOPQRSTUVWXYZ", 6))}
	for _, name := range noNames() {
		list = append(list, impl.Writer{Name: name}, writer(name, "e1r1"))
	}
	for _, letter := range noLetters() {
		list = append(list, impl.Writer{Name: "odd", Faults: []impl.TypeFault{{Letter: letter, Kind: 1}}},
			impl.Writer{Name: "odd", Faults: []impl.TypeFault{{Letter: "!", Kind: 1}, {Letter: letter, Kind: 1}}},
			impl.Writer{Name: "odd", Faults: []impl.TypeFault{{Letter: letter, Kind: 1}, {Letter: "~", Kind: 1}}})
	}
	for _, kind := range noKinds() {
		list = append(list, impl.Writer{Name: "odd", Faults: []impl.TypeFault{{Letter: "e", Kind: kind}}},
			impl.Writer{Name: "odd", Faults: []impl.TypeFault{{Letter: "e", Kind: 1}, {Letter: "r", Kind: kind}}},
			impl.Writer{Name: "odd", Faults: []impl.TypeFault{{Letter: "e", Kind: kind}, {Letter: "r", Kind: 6}}})
	}
	for _, faults := range []string{"e1e1", "e1e2", "e2e1", "r1e1", "e1r1e1", "e1r1r1", "e1r1q1", "e1e1r1", "r1e1s1", "a1B1", "~1!1", faulty("abcdefghji", 1), faulty("abcdefghii", 1)} {
		list = append(list, writer("odd", faults))
	}
	return list
}

// rightWriters returns machines of all sorts; all may stand in one list.
func rightWriters() []impl.Writer {
	return []impl.Writer{
		writer("adler", "e1r1"), writer("royal", "e1"), writer("bare", ""), writer("b", ""), writer("twin", "e1r1"),
		writer("a-2-b-", "!1~6"), writer("wwwwwwwwwwww", faulty("!ABYZabyz~", 6)), writer("kinds", "a1b2c3d4e5f6"),
		writer("x9", "A1a1"), writer("e5", "e5"), writer("r", "r6"), writer("low", "e2r2"),
	}
}

func TestMachinesAreValid(t *testing.T) {
	is(t, "limits", all(impl.MaxMachines, impl.MaxFaults, impl.MaxSeen, impl.MaxTelling), 12, 10, 60, 16)
	is(t, "kinds", all(impl.TypeHigh, impl.TypeLow, impl.TypeLeft, impl.TypeRight, impl.TypeWeak, impl.TypeCut), 1, 2, 3, 4, 5, 6)
	list := rightWriters()
	for i := range list {
		is(t, fmt.Sprint("a machine ", list[i]), all(impl.ValidWriters(list[i:i+1])), true)
	}
	is(t, "no machines", all(impl.ValidWriters(nil)), true)
	is(t, "MaxMachines machines", all(len(list), impl.ValidWriters(list)), 12, true)
	is(t, "one more", all(impl.ValidWriters(append(slices.Clone(list), writer("more", "")))), false)
	is(t, "many without faults", all(impl.ValidWriters(writers(repeated("", 12)...)), impl.ValidWriters(writers(repeated("", 13)...))), true, false)
	for _, w := range wrongWriters() {
		is(t, fmt.Sprintf("no machine %.200v", w), all(impl.ValidWriters([]impl.Writer{w})), false)
		is(t, fmt.Sprintf("no machine behind one %.200v", w), all(impl.ValidWriters([]impl.Writer{writer("adler", "e1"), w})), false)
		is(t, fmt.Sprintf("no machine in front of one %.200v", w), all(impl.ValidWriters([]impl.Writer{w, writer("adler", "e1")})), false)
	}
	for i := range list {
		for k := range list {
			equal := slices.Clone(list)
			equal[i].Name = list[k].Name
			is(t, fmt.Sprint("names ", i, k), all(impl.ValidWriters(equal)), i == k)
		}
	}
}

// wrongSeen returns elements that no page has.
func wrongSeen() []impl.Seen {
	list := []impl.Seen{{}}
	for _, letter := range noLetters() {
		list = append(list, impl.Seen{Letter: letter}, impl.Seen{Letter: letter, Kind: 1})
	}
	for _, kind := range noKinds()[1:] {
		list = append(list, impl.Seen{Letter: "e", Kind: kind})
	}
	return list
}

func TestValidSeen(t *testing.T) {
	for _, elements := range []string{"", "e1r0", "e0", "e1", "e6", "!0~6", "~1!2", "r1e1", "e1e1", "e1e2", "e0e1", faulty(x(60), 0), faulty(x(60), 6)} {
		is(t, "a page "+elements, all(impl.ValidSeen(page(elements))), true)
	}
	is(t, "one element more", all(impl.ValidSeen(page(faulty(x(61), 0)))), false)
	is(t, "many elements", all(impl.ValidSeen(page(faulty(x(1000), 1)))), false)
	for _, s := range wrongSeen() {
		for at := range 3 {
			list := page("e1r0")
			is(t, fmt.Sprintf("no page %.100v at %d", s, at), all(impl.ValidSeen(slices.Insert(list, at, s))), false)
		}
		is(t, fmt.Sprintf("no page %.100v", s), all(impl.ValidSeen([]impl.Seen{s})), false)
	}
}

func TestKindOf(t *testing.T) {
	for _, c := range []struct {
		name, faults, letter string
		want                 int64
	}{
		{"the first fault", "e1r6", "e", 1},
		{"the last fault", "e1r6", "r", 6},
		{"a fault in the middle", "a1b2c3", "b", 2},
		{"no fault", "e1r6", "f", 0},
		{"no fault, in front of all", "e1r6", "a", 0},
		{"no fault, behind all", "e1r6", "z", 0},
		{"a machine without faults", "", "e", 0},
		{"a capital letter", "e1r6", "E", 0},
		{"a capital and a small letter", "E2e3", "E", 2},
		{"a small and a capital letter", "E2e3", "e", 3},
		{"the least letter", "!4~5", "!", 4},
		{"the greatest letter", "!4~5", "~", 5},
		{"MaxFaults faults", faulty("abcdefghi", 1) + "j5", "j", 5},
	} {
		kind, code := impl.KindOf(writer("adler", c.faults), c.letter)
		is(t, c.name, all(kind, code), c.want, impl.OK)
	}
}

func TestContradictions(t *testing.T) {
	for _, c := range []struct {
		name, faults, page string
		want               int64
	}{
		{"the example", "e1r1", "e1r0", 1},
		{"a page without elements", "e1r1", "", 0},
		{"no contradiction", "e1r1", "e1r1", 0},
		{"elements in another order", "e1r2", "r2e1", 0},
		{"letters without faults", "e1r1", "a0b0", 0},
		{"the machine has the fault, the page doesn't", "e1", "e0", 1},
		{"the page has the fault, the machine doesn't", "e1", "r1", 1},
		{"the kinds differ", "e1", "e2", 1},
		{"all three", "e1r1", "e0x3r2", 3},
		{"a machine without faults", "", "e0r0", 0},
		{"a machine without faults, a page with some", "", "e1r0s6", 2},
		{"a letter twice, both fit", "e1", "e1e1", 0},
		{"a letter twice, both contradict", "e1", "e2e2", 2},
		{"a letter with different kinds", "e1", "e1e2", 1},
		{"a letter with the kind 0 and another one", "e1", "e0e1", 1},
		{"a letter with the kind 0 and another one, without a fault", "", "e0e1", 1},
		{"three kinds of a letter", "e1", "e0e1e2", 2},
		{"faults that are not on the page", "a1b2c3", "d0", 0},
		{"letters of other cases", "e1", "E0E1", 1},
		{"the least and the greatest letter", "!1~6", "!1~6!6~1", 2},
		{"MaxSeen elements that fit", "e1", faulty(strings.Repeat("e", 60), 1), 0},
		{"MaxSeen elements that contradict", "e1", faulty(strings.Repeat("e", 60), 2), 60},
		{"the last one of MaxSeen", "e1", faulty(strings.Repeat("e", 59), 1) + "e0", 1},
		{"MaxFaults faults", faulty("abcdefghij", 3), faulty("abcdefghijk", 3), 1},
	} {
		many, code := impl.ContradictionsOf(writer("adler", c.faults), page(c.page))
		is(t, c.name, all(many, code), c.want, impl.OK)
	}
}

func TestBestWriters(t *testing.T) {
	for _, c := range []struct {
		name   string
		faults []string
		page   string
		want   []int64
		fewest int64
	}{
		{"the example", []string{"e1r1", "e1"}, "e1r0", []int64{1}, 0},
		{"one machine", []string{"e1r1"}, "e1r0", []int64{0}, 1},
		{"one machine that fits nowhere", []string{"e1"}, "e0r6", []int64{0}, 2},
		{"a page without elements", []string{"e1r1", "e1", ""}, "", []int64{0, 1, 2}, 0},
		{"the first one", []string{"e1", "e2"}, "e1", []int64{0}, 0},
		{"the same faults", []string{"r1", "e1", "e1"}, "e1", []int64{1, 2}, 0},
		{"the same faults, with contradictions", []string{"r1", "e1", "", "e1"}, "e1f1", []int64{1, 3}, 1},
		{"two without faults", []string{"e1", "", ""}, "e0", []int64{1, 2}, 0},
		{"several with as many contradictions of other sorts", []string{"e1", "r1", "e2"}, "e0r0", []int64{0, 1, 2}, 1},
		{"the first and the last one", []string{"e1", "r1", "e1s2"}, "e1", []int64{0, 2}, 0},
		{"fewer, fewer again, as few", []string{"e1r1s1", "r1s1", "s1", "e1r2", "r1"}, "e0r0s0", []int64{2, 4}, 1},
		{"none fits", []string{"e1", "e2", "e3"}, "e4", []int64{0, 1, 2}, 1},
		{"a letter with different kinds", []string{"e1", "e2", ""}, "e1e2e1", []int64{0}, 1},
		{"MaxSeen contradictions of each one", []string{"e1", "e2"}, faulty(strings.Repeat("e", 60), 3), []int64{0, 1}, 60},
		{"MaxSeen contradictions, and one less", []string{"e1", "e2"}, faulty(strings.Repeat("e", 59), 3) + "e2", []int64{1}, 59},
		{"MaxMachines machines, the last one", append(repeated("e1", 11), "e2"), "e2", []int64{11}, 0},
		{"MaxMachines machines, all", repeated("e1", 12), "e2", []int64{0, 1, 2, 3, 4, 5, 6, 7, 8, 9, 10, 11}, 1},
	} {
		best, fewest, code := impl.BestWriters(writers(c.faults...), page(c.page))
		is(t, c.name, all(best, fewest, code), c.want, c.fewest, impl.OK)
	}
	for _, elements := range []string{"", "e1r0", faulty(x(60), 1)} {
		best, fewest, code := impl.BestWriters(nil, page(elements))
		is(t, "no machines, "+elements, all(best, fewest, code), []int64{}, 0, impl.ErrNotFound)
	}
}

func TestContraryLetters(t *testing.T) {
	for _, c := range []struct{ name, page, want string }{
		{"a page without elements", "", ""},
		{"different letters", "e1r0s2", ""},
		{"a letter twice with the same kind", "e1e1", ""},
		{"a letter twice without a fault", "e0e0", ""},
		{"a letter twice with different kinds", "e1e2", "e"},
		{"the kind 0 in front of another one", "e0e1", "e"},
		{"the kind 0 behind another one", "e1e0", "e"},
		{"the example, and e once more", "e1r0e0", "e"},
		{"others between them", "e1r1s1e2", "e"},
		{"three kinds", "e1e2e3", "e"},
		{"the first kind again", "e1e2e1", "e"},
		{"the last kind twice", "e1e2e2", "e"},
		{"the first kind twice", "e1e1e2", "e"},
		{"several letters in ascending order", "r1e1s3r2s3e2", "er"},
		{"in another order", "z1a1z2a2m1m1", "az"},
		{"a letter in both cases", "e1E2", ""},
		{"capital letters are less than small ones", "a1Z1a2Z2", "Za"},
		{"the least and the greatest letter", "~1!1~2!2", "!~"},
		{"the last one of MaxSeen elements", faulty(strings.Repeat("e", 59), 1) + "e6", "e"},
		{"MaxSeen elements with the same kind", faulty(strings.Repeat("e", 60), 6), ""},
		{"30 letters", faulty("DCBAzyxwvutsrqponmlkjihgfedcba", 1) + faulty("abcdefghijklmnopqrstuvwxyzABCD", 0), "ABCDabcdefghijklmnopqrstuvwxyz"},
	} {
		letters, code := impl.ContraryLetters(page(c.page))
		is(t, c.name, all(letters, code), strings.Split(c.want, ""), impl.OK)
	}
}

func TestLettersApart(t *testing.T) {
	for _, c := range []struct{ name, a, b, want string }{
		{"the given machines", "e1r1", "e1", "r"},
		{"the same faults", "e1r1", "e1r1", ""},
		{"two without faults", "", "", ""},
		{"one without faults", "e1r1", "", "er"},
		{"the kinds differ", "e1", "e2", "e"},
		{"the least and the greatest kind", "e1r6", "e6r1", "er"},
		{"other letters", "e1", "r1", "er"},
		{"the letters of b are less", "s1t1", "e1r1", "erst"},
		{"letters in turns", "a1c1e1", "b1d1f1", "abcdef"},
		{"a letter of each sort", "a1b1c1", "b1c2d2", "acd"},
		{"one letter is the same", "a1e1z1", "b1e1y1", "abyz"},
		{"the last letter is the same", "a1z1", "b1z1", "ab"},
		{"capital letters are less than small ones", "a1", "Z1", "Za"},
		{"the least and the greatest letter", "~1", "!1", "!~"},
		{"MaxFaults faults on each one", faulty("abcdefghij", 1), faulty("klmnopqrst", 1), "abcdefghijklmnopqrst"},
		{"MaxFaults faults of other kinds", faulty("abcdefghij", 1), faulty("abcdefghij", 2), "abcdefghij"},
	} {
		for _, name := range []string{"one", "other"} { // a and b may have the same name
			letters, code := impl.LettersApart(writer("one", c.a), writer(name, c.b))
			is(t, c.name, all(letters, code), strings.Split(c.want, ""), impl.OK)
			letters, code = impl.LettersApart(writer(name, c.b), writer("one", c.a))
			is(t, c.name+", the other way round", all(letters, code), strings.Split(c.want, ""), impl.OK)
		}
	}
	for _, w := range rightWriters() {
		letters, code := impl.LettersApart(w, w)
		is(t, "the same machine", all(letters, code), []string{}, impl.OK)
	}
}

func TestFewestLetters(t *testing.T) {
	for _, c := range []struct {
		name   string
		faults []string
		want   string
	}{
		{"no machines", nil, ""},
		{"one machine", []string{"e1r1"}, ""},
		{"one machine without faults", []string{""}, ""},
		{"the given machines", []string{"e1r1", "e1"}, "r"},
		{"one without faults", []string{"", "e1r1"}, "e"},
		{"the kinds differ", []string{"e1", "e2"}, "e"},
		{"one letter with all kinds", []string{"e1", "e2", "e3", "", "e4", "e5", "e6"}, "e"},
		{"one letter, although there are others", []string{"a1e1", "a1e2", "b1e3", "b1"}, "e"},
		{"several letters, the first one counts", []string{"b1c1", "a1d1"}, "a"},
		{"the first one in another order of machines", []string{"a1d1", "b1c1"}, "a"},
		{"two letters", []string{"", "a1", "b1"}, "ab"},
		{"two letters that are both on one machine", []string{"", "a1", "b1", "a1b1"}, "ab"},
		{"two letters, several lists", []string{"", "a1b1", "c1d1"}, "ac"},
		{"two letters, the first list of several", []string{"a1b1c1", "a1", "b1", "c1"}, "ab"},
		{"the second letters differ", []string{"a1", "a1b1c1", "d1"}, "ab"},
		{"the first letter does not help", []string{"a1b1c1", "a1c1", "a1b1", "a1"}, "bc"},
		{"the letter that tells most apart is not among them", []string{"", "e1", "a2e2", "a1d1", "a3d1e1", "a4d1e2", "a1d2", "a5d2e1", "a6d2e2"}, "de"},
		{"three letters", []string{"", "a1", "b1", "c1"}, "abc"},
		{"three letters of four", []string{"d1", "a1d1", "b1", "c1"}, "abc"},
		{"a capital letter is less", []string{"E1e1", ""}, "E"},
		{"the least and the greatest letter", []string{"", "!1", "~1"}, "!~"},
		{"two letters, as one has too few kinds", []string{"a1", "a2", "a3", "a4", "a5", "a6", "", "b1"}, "ab"},
		{"all letters are needed", []string{"", "a1", "b1", "c1", "d1", "e1", "f1", "g1", "h1", "i1", "j1", "k1"}, "abcdefghijk"},
		{"all but one are needed", []string{"a1", "b1", "c1", "d1"}, "abc"},
		{"MaxMachines by four letters of one kind", []string{"", "a1", "b1", "a1b1", "c1", "a1c1", "b1c1", "a1b1c1", "d1", "a1d1", "b1d1", "a1b1d1"}, "abcd"},
		{"MaxTelling letters on two machines", []string{faulty("abcdefgh", 1), faulty("ijklmnop", 1)}, "a"},
		{"MaxTelling letters, the last ones", []string{"", faulty("bdfhjlnp", 1), faulty("acegikmo", 1)}, "ab"},
		{"MaxTelling letters, and one that both have", []string{faulty("abcdefghz", 1), faulty("ijklmnopz", 1)}, "a"},
		{"MaxTelling letters, and two that all have", []string{faulty("!abcdefg~", 3), faulty("!hijklmn~", 3), faulty("!op~", 3)}, "ah"},
		{"20 letters, of which 10 tell machines apart", []string{faulty("abcdefghij", 1), faulty("abcdefghij", 2)}, "a"},
		{"16 faults of 8 letters", []string{faulty("abcdefgh", 1), faulty("abcdefgh", 2), faulty("ijklmnop", 1)}, "a"},
	} {
		letters, code := impl.FewestLetters(writers(c.faults...))
		is(t, c.name, all(letters, code), strings.Split(c.want, ""), impl.OK)
	}
}

func TestMachinesThatAreNotToldApart(t *testing.T) {
	for _, c := range []struct {
		name   string
		faults []string
		want   int64
	}{
		{"two machines with the same faults", []string{"e1r1", "e1r1"}, impl.ErrClash},
		{"two machines without faults", []string{"", ""}, impl.ErrClash},
		{"the first and the last one", []string{"e1", "", "r1", "e1"}, impl.ErrClash},
		{"the last ones", []string{"e1", "", "r1", "r1"}, impl.ErrClash},
		{"all", repeated("e1", 12), impl.ErrClash},
		{"two without faults among others", []string{"e1", "", "e2", ""}, impl.ErrClash},
		{"two of MaxMachines", []string{"", "a1", "a2", "a3", "a4", "a5", "a6", "b1", "b2", "b3", "b4", "b4"}, impl.ErrClash},
		{"one more than MaxTelling letters", []string{faulty("abcdefghi", 1), faulty("jklmnopq", 1)}, impl.ErrFull},
		{"one more than MaxTelling letters on three machines", []string{faulty("abcdef", 1), faulty("ghijkl", 1), faulty("mnopq", 1)}, impl.ErrFull},
		{"one more than MaxTelling letters, some with several kinds", []string{faulty("abcdefghi", 1), faulty("abcdefghi", 2), faulty("jklmnopq", 1)}, impl.ErrFull},
		{"one more, of which two machines have one", []string{faulty("aclmnopq", 1), faulty("bcdefghij", 1), "k1"}, impl.ErrFull},
		{"a fault of all machines but one", []string{faulty("abcdefgz", 1), faulty("hijklmnz", 1), faulty("opz", 1), ""}, impl.ErrFull},
		{"the most letters", []string{faulty("ABCDEFGHIJ", 1), faulty("KLMNOPQRST", 1), faulty("abcdefghij", 1), faulty("klmnopqrst", 1)}, impl.ErrFull},
		{"the same faults come first", []string{faulty("abcdefghi", 1), faulty("abcdefghi", 1), faulty("jklmnopq", 1)}, impl.ErrClash},
		{"the same faults come first, apart", []string{faulty("abcdefghi", 1), faulty("jklmnopq", 1), faulty("abcdefghi", 1)}, impl.ErrClash},
		{"the same faults come first, at the end", []string{faulty("abcdefghi", 1), faulty("jklmnopq", 1), "", ""}, impl.ErrClash},
	} {
		letters, code := impl.FewestLetters(writers(c.faults...))
		is(t, c.name, all(letters, code), []string{}, c.want)
	}
}

func TestTypePage(t *testing.T) {
	for _, c := range []struct{ name, faults, text, want string }{
		{"the given text", "e1", "e r", "e1r0"},
		{"an empty text", "e1", "", ""},
		{"blanks only", "e1", "   ", ""},
		{"MaxSeen blanks", "e1", gap(60), ""},
		{"a letter twice", "e1", "ee", "e1e1"},
		{"in the order of the text", "e1r6", "rare", "r6a0r6e1"},
		{"blanks in front and behind", "e1r6", "  re  ", "r6e1"},
		{"a machine without faults", "", "tree", "t0r0e0e0"},
		{"both cases", "E2e3", "Ee", "E2e3"},
		{"the bytes 33 and 126", "!4~5", "! ~", "!4~5"},
		{"MaxSeen bytes", "x6", x(60), faulty(x(60), 6)},
		{"MaxSeen bytes, the last one a letter", "e1", gap(59) + "e", "e1"},
		{"faults that are not in the text", "a1b2", "c", "c0"},
	} {
		elements, code := impl.TypePage(writer("adler", c.faults), c.text)
		is(t, c.name, all(elements, code), page(c.want), impl.OK)
	}
}

func TestRareFaults(t *testing.T) {
	for _, c := range []struct {
		name   string
		faults []string
		want   string
	}{
		{"no machines", nil, ""},
		{"one machine", []string{"e1r1"}, "e1r1"},
		{"one machine without faults", []string{""}, ""},
		{"the given machines", []string{"e1r1", "e1"}, "r1"},
		{"two with the same faults", []string{"e1r1", "e1r1"}, ""},
		{"two without faults", []string{"", ""}, ""},
		{"a fault of all machines", []string{"e1", "e1r1", "e1s2"}, "r1s2"},
		{"a fault of three machines", []string{"e1", "e1", "e1"}, ""},
		{"a fault of three machines of four", []string{"e1", "", "e1", "e1f2"}, "f2"},
		{"a fault of two machines of three", []string{"e1r1", "e1", "s1"}, "r1s1"},
		{"the first and the last one", []string{"e1", "r1", "e1"}, "r1"},
		{"different kinds of a letter", []string{"e1", "e2"}, "e1e2"},
		{"different kinds in ascending order", []string{"e3", "e1", "e2"}, "e1e2e3"},
		{"different kinds, one of which two have", []string{"e3", "e1", "e3"}, "e1"},
		{"the letter comes first", []string{"r1", "e6"}, "e6r1"},
		{"the letter, then the kind", []string{"e2r1", "e1r2", "A6z1"}, "A6e1e2r1r2z1"},
		{"the least and the greatest letter", []string{"~1", "!6"}, "!6~1"},
		{"all kinds", []string{"e6", "e5", "e4", "e3", "e2", "e1"}, "e1e2e3e4e5e6"},
		{"twins beside another one", []string{"e1r1", "r2", "e1r1"}, "r2"},
		{"MaxMachines machines", append(repeated("e1r2", 11), "e2"), "e2"},
	} {
		rare, code := impl.RareFaults(writers(c.faults...))
		is(t, c.name, all(rare, code), writer("", c.want).Faults, impl.OK)
	}
	var list []impl.Writer
	for i, letter := range strings.Split("lkjihgfedcba", "") {
		list = append(list, impl.Writer{Name: fmt.Sprint("w", i), Faults: faultsOn("0123456789", 1)})
		list[i].Faults[9] = impl.TypeFault{Letter: letter, Kind: 6}
	}
	rare, code := impl.RareFaults(list)
	is(t, "MaxFaults faults on MaxMachines machines", all(rare, code), faultsOn("abcdefghijkl", 6), impl.OK)
}

// writerReturns checks what the functions on one machine return if there is no result.
func writerReturns(t *testing.T, w impl.Writer, letter, text string, want int64) {
	t.Helper()
	name := fmt.Sprintf(" for %.100v, %.30q and %.30q", w, letter, text)
	kind, code := impl.KindOf(w, letter)
	is(t, "KindOf"+name, all(kind, code), 0, want)
	elements, code := impl.TypePage(w, text)
	is(t, "TypePage"+name, all(elements, code), []impl.Seen{}, want)
}

// pageReturns checks what the functions on machines and a page return if the page or all machines are not valid.
func pageReturns(t *testing.T, list []impl.Writer, elements []impl.Seen) {
	t.Helper()
	name := fmt.Sprintf(" for %.200v and %.200v", list, elements)
	best, fewest, code := impl.BestWriters(list, elements)
	is(t, "BestWriters"+name, all(best, fewest, code), []int64{}, 0, impl.ErrInvalid)
	for _, w := range list {
		many, code := impl.ContradictionsOf(w, elements)
		is(t, "ContradictionsOf"+name, all(many, code), 0, impl.ErrInvalid)
	}
}

// listReturns checks what the functions on a list of machines return if it is not valid.
func listReturns(t *testing.T, list []impl.Writer) {
	t.Helper()
	name := fmt.Sprintf(" for %.200v", list)
	is(t, "ValidWriters"+name, all(impl.ValidWriters(list)), false)
	letters, code := impl.FewestLetters(list)
	is(t, "FewestLetters"+name, all(letters, code), []string{}, impl.ErrInvalid)
	rare, code := impl.RareFaults(list)
	is(t, "RareFaults"+name, all(rare, code), []impl.TypeFault{}, impl.ErrInvalid)
	best, fewest, code := impl.BestWriters(list, page("e1"))
	is(t, "BestWriters"+name, all(best, fewest, code), []int64{}, 0, impl.ErrInvalid)
}

func TestWrongMachines(t *testing.T) {
	right := writer("adler", "e1r1")
	for _, w := range wrongWriters() {
		// ErrInvalid comes before ErrRange, ErrNotFound, ErrClash and ErrFull.
		for _, letter := range append(noLetters(), "e") {
			writerReturns(t, w, letter, "e", impl.ErrInvalid)
		}
		for _, text := range []string{"", "e", x(60), x(61), "\x7f"} {
			writerReturns(t, w, "e", text, impl.ErrInvalid)
		}
		for _, elements := range []string{"", "e1", faulty(x(61), 1)} {
			pageReturns(t, []impl.Writer{w}, page(elements))
		}
		for _, pair := range [][]impl.Writer{{w, right}, {right, w}, {w, w}} {
			letters, code := impl.LettersApart(pair[0], pair[1])
			is(t, fmt.Sprintf("LettersApart for %.200v", pair), all(letters, code), []string{}, impl.ErrInvalid)
		}
		many := writers(faulty("abcdefghi", 1), faulty("jklmnopq", 1), "e1", "e1")
		for at := range 5 {
			listReturns(t, slices.Insert(slices.Clone(many), at, w))
		}
		listReturns(t, []impl.Writer{w})
	}
	listReturns(t, writers(repeated("", 13)...))
	listReturns(t, append(rightWriters(), writer("more", "e1")))
	listReturns(t, []impl.Writer{right, right})
	listReturns(t, []impl.Writer{right, writer("adler", "")})
	listReturns(t, []impl.Writer{right, writer("b", "e1"), writer("adler", "r2")})
	for _, elements := range []string{"", "e1"} {
		best, fewest, code := impl.BestWriters(writers(repeated("e1", 13)...), page(elements))
		is(t, "one more than MaxMachines, "+elements, all(best, fewest, code), []int64{}, 0, impl.ErrInvalid)
	}
}

func TestWrongPages(t *testing.T) {
	wrong := [][]impl.Seen{page(faulty(x(61), 0)), page(faulty(x(1000), 0))}
	for _, s := range wrongSeen() {
		wrong = append(wrong, []impl.Seen{s}, append(page("e1e2"), s), append([]impl.Seen{s}, page("e1e2")...), append(page(faulty(x(59), 0)), s))
	}
	for _, elements := range wrong {
		pageReturns(t, writers("e1r1", "", "e1r1"), elements)
		pageReturns(t, nil, elements) // before ErrNotFound
		letters, code := impl.ContraryLetters(elements)
		is(t, fmt.Sprintf("ContraryLetters for %.200v", elements), all(letters, code), []string{}, impl.ErrInvalid)
	}
}

func TestWrongLettersAndTexts(t *testing.T) {
	for _, w := range rightWriters() {
		for _, letter := range noLetters() {
			kind, code := impl.KindOf(w, letter)
			is(t, fmt.Sprintf("KindOf %v, %.30q", w, letter), all(kind, code), 0, impl.ErrRange)
		}
		for _, text := range []string{x(61), gap(61), x(60) + " ", " " + x(60), strings.Repeat("ab ", 21), "\x1f", "\x7f", "e\x1f", "e\x7f", "\x1fe", "\x7fe", "e\tr", "\n", "\x00", "\x80", "\xff", "é", x(59) + "\x7f", x(60) + "\x1f", x(100000)} {
			elements, code := impl.TypePage(w, text)
			is(t, fmt.Sprintf("TypePage %v, %.30q", w, text), all(elements, code), []impl.Seen{}, impl.ErrRange)
		}
	}
}
