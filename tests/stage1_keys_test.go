package tests

import (
	"slices"
	"strings"
	"testing"

	"loop.example/g01045/impl"
)

// deskKeys has two keys that are not dead, a dead one between them, and accents for it.
func deskKeys() ([]impl.Key, []impl.Accent) {
	keys := []impl.Key{{Low: "a", High: "A"}, {Low: "'", High: "^", Dead: true}, {Low: "b", High: "B"}}
	accents := []impl.Accent{{Mark: "'", Letter: "a", Made: "1"}, {Mark: "^", Letter: "a", Made: "2"}, {Mark: "'", Letter: "B", Made: "3"}}
	return keys, accents
}

// manyKeys returns n keys with the letters from 33 on; the last one is dead if dead is true.
func manyKeys(n int, dead bool) []impl.Key {
	var keys []impl.Key
	for i := range n {
		keys = append(keys, impl.Key{Low: string(rune(33 + 2*i)), High: string(rune(34 + 2*i)), Dead: dead && i == n-1})
	}
	return keys
}

// manyAccents returns n accents for manyKeys(20, true): the marks are G and H, the letters are those from 33 on.
func manyAccents(n int) []impl.Accent {
	var accents []impl.Accent
	for i := range n {
		accents = append(accents, impl.Accent{Mark: string(rune(71 + i%2)), Letter: string(rune(33 + i)), Made: string(rune(100 + i))})
	}
	return accents
}

func TestLimitsOfKeys(t *testing.T) {
	if impl.MaxKeys != 40 || impl.MaxAccents != 20 || impl.MaxPresses != 200 {
		t.Fatal(impl.MaxKeys, impl.MaxAccents, impl.MaxPresses)
	}
	if !impl.ValidKeys(manyKeys(40, false), nil) || impl.ValidKeys(manyKeys(41, false), nil) {
		t.Error("40 keys are valid, and 41 are not")
	}
	keys := manyKeys(20, true)
	if !impl.ValidKeys(keys, manyAccents(20)) || impl.ValidKeys(keys, manyAccents(21)) {
		t.Error("20 accents are valid, and 21 are not")
	}
}

func TestValidKeys(t *testing.T) {
	keys, accents := deskKeys()
	if !impl.ValidKeys(nil, nil) || !impl.ValidKeys(keys, nil) || !impl.ValidKeys(keys, accents) {
		t.Error("these are valid")
	}
	if !impl.ValidKeys([]impl.Key{{Low: "!", High: "~"}}, nil) {
		t.Error("the first and the last letter are valid")
	}
	for _, k := range []impl.Key{{}, {Low: "c"}, {High: "c"}, {Low: "c", High: "c"}, {Low: "a", High: "c"}, {Low: "c", High: "A"},
		{Low: "c", High: "'"}, {Low: "^", High: "c"}, {Low: " ", High: "c"}, {Low: "c", High: "\x7f"}, {Low: "cd", High: "e"},
		{Low: "é", High: "c"}, {Low: "c", High: "\xff"}, {Low: "c", High: "\x00"}, {Low: "c", High: "c", Dead: true}} {
		for at := range 4 {
			if impl.ValidKeys(slices.Insert(slices.Clone(keys), at, k), nil) {
				t.Errorf("%+v at %d is not valid", k, at)
			}
		}
	}
}

func TestValidAccents(t *testing.T) {
	keys, accents := deskKeys()
	for _, a := range []impl.Accent{{Mark: "^", Letter: "b", Made: "4"}, {Mark: "'", Letter: "b", Made: "!"}, {Mark: "^", Letter: "A", Made: "~"}} {
		if !impl.ValidKeys(keys, append(slices.Clone(accents), a)) {
			t.Errorf("%q is valid", a)
		}
	}
	for _, a := range []impl.Accent{{}, {Letter: "b", Made: "4"}, {Mark: "^", Made: "4"}, {Mark: "^", Letter: "b"},
		{Mark: "a", Letter: "b", Made: "4"}, {Mark: "'", Letter: "^", Made: "4"}, {Mark: "^", Letter: "^", Made: "4"}, {Mark: "A", Letter: "'", Made: "4"},
		{Mark: "x", Letter: "b", Made: "4"}, {Mark: "^", Letter: "x", Made: "4"}, {Mark: "1", Letter: "b", Made: "4"}, {Mark: "^", Letter: "1", Made: "4"},
		{Mark: "^", Letter: "b", Made: "a"}, {Mark: "^", Letter: "b", Made: "b"}, {Mark: "^", Letter: "b", Made: "'"}, {Mark: "^", Letter: "b", Made: "^"},
		{Mark: "^", Letter: "b", Made: "1"}, {Mark: "^", Letter: "b", Made: "3"}, {Mark: "'", Letter: "a", Made: "4"}, {Mark: "'", Letter: "B", Made: "4"},
		{Mark: "^", Letter: "b", Made: "45"}, {Mark: "^", Letter: "b", Made: " "}, {Mark: "^", Letter: "b", Made: "\x7f"}, {Mark: "^", Letter: "b", Made: "é"},
		{Mark: "'^", Letter: "b", Made: "4"}, {Mark: "'", Letter: "ab", Made: "4"}} {
		for at := range 4 {
			if impl.ValidKeys(keys, slices.Insert(slices.Clone(accents), at, a)) {
				t.Errorf("%q at %d is not valid", a, at)
			}
		}
	}
}

func TestSamePresses(t *testing.T) {
	list := []impl.Press{{Key: 1}, {Key: -7, Shift: true}}
	if !impl.SamePresses(nil, []impl.Press{}) || !impl.SamePresses(list, slices.Clone(list)) {
		t.Error("these are equal")
	}
	for _, other := range [][]impl.Press{nil, list[:1], {{Key: 1}, {Key: -7}}, {{Key: 2}, {Key: -7, Shift: true}}, {{Key: -7, Shift: true}, {Key: 1}}, append(slices.Clone(list), impl.Press{})} {
		if impl.SamePresses(list, other) || impl.SamePresses(other, list) {
			t.Errorf("%v is another list", other)
		}
	}
}

func TestPressFor(t *testing.T) {
	keys, _ := deskKeys()
	for letter, want := range map[string]impl.Press{"a": {Key: 0}, "A": {Key: 0, Shift: true}, "'": {Key: 1}, "^": {Key: 1, Shift: true}, "b": {Key: 2}, "B": {Key: 2, Shift: true}} {
		p, code := impl.PressFor(keys, letter)
		is(t, letter, all(p, code), want, impl.OK)
	}
	for _, letter := range []string{"1", "c", "!", "~"} {
		p, code := impl.PressFor(keys, letter)
		is(t, letter, all(p, code), impl.Press{}, impl.ErrNotFound)
	}
	for _, letter := range []string{"", " ", "ab", "aa", "\x7f", "\xff", "é"} {
		p, code := impl.PressFor(keys, letter)
		is(t, letter, all(p, code), impl.Press{}, impl.ErrRange)
	}
	for _, letter := range []string{"a", "z", ""} {
		p, code := impl.PressFor([]impl.Key{{Low: "a", High: "a"}}, letter)
		is(t, letter, all(p, code), impl.Press{}, impl.ErrInvalid)
	}
	p, code := impl.PressFor(nil, "a")
	is(t, "no keys", all(p, code), impl.Press{}, impl.ErrNotFound)
	p, code = impl.PressFor(manyKeys(40, true), "p")
	is(t, "the last key", all(p, code), impl.Press{Key: 39, Shift: true}, impl.OK)
}

// The example of chapter 2.
func TestExampleOfKeys(t *testing.T) {
	keys := []impl.Key{{Low: "a", High: "A"}, {Low: "b", High: "B"}}
	list, code := impl.PressesFor(keys, nil, "aB")
	if code != impl.OK || len(list) != 2 || impl.PressText(list[0]) != "0" || impl.PressText(list[1]) != "^1" {
		t.Error(list, code)
	}
	n, code := impl.ShiftsOf(list)
	is(t, "shifts", all(n, code), 2, impl.OK)
}

func TestPressesFor(t *testing.T) {
	keys, accents := deskKeys()
	for text, want := range map[string]string{"": "", "a": "0", "bA": "2 ^0", "1": "1 0", "2": "^1 0", "3": "1 ^2", "a1Bb32a": "0 1 0 ^2 2 1 ^2 ^1 0 0"} {
		list, code := impl.PressesFor(keys, accents, text)
		is(t, text, all(pressTexts(list), code), want, impl.OK)
	}
	for _, text := range []string{"'", "^", "a'", "'a", "4", "a4", "4a"} {
		list, code := impl.PressesFor(keys, accents, text)
		is(t, text, all(list, code), []int{}, impl.ErrNotFound)
	}
	list, code := impl.PressesFor(keys, nil, "1")
	is(t, "no accents", all(list, code), []int{}, impl.ErrNotFound)
	for _, text := range []string{" ", "a a", "4 ", "' ", "\x7f", "a\xff", "é", strings.Repeat("a", 101), strings.Repeat("4", 101)} {
		list, code := impl.PressesFor(keys, accents, text)
		is(t, text, all(list, code), []int{}, impl.ErrRange)
	}
	for _, text := range []string{"", "a", "4", " ", strings.Repeat("a", 101)} {
		list, code := impl.PressesFor(keys, append(accents, impl.Accent{}), text)
		is(t, text, all(list, code), []int{}, impl.ErrInvalid)
	}
}

// pressTexts returns the texts of presses, separated by single blanks.
func pressTexts(list []impl.Press) string {
	var texts []string
	for _, p := range list {
		texts = append(texts, impl.PressText(p))
	}
	return strings.Join(texts, " ")
}

func TestLongestTextNeedsAllPresses(t *testing.T) {
	keys, accents := deskKeys()
	text := strings.Repeat("1", 100)
	list, code := impl.PressesFor(keys, accents, text)
	if code != impl.OK || len(list) != impl.MaxPresses {
		t.Fatal(len(list), code)
	}
	got, code := impl.TextOfPresses(keys, accents, list)
	is(t, "200 presses", all(got, code), text, impl.OK)
	got, code = impl.TextOfPresses(keys, accents, append(list, impl.Press{}))
	is(t, "201 presses", all(got, code), "", impl.ErrRange)
}

func TestTextOfPresses(t *testing.T) {
	keys, accents := deskKeys()
	press := func(texts string) []impl.Press {
		var list []impl.Press
		for _, s := range impl.SplitWords(texts) {
			p, ok := impl.ReadPress(s)
			if !ok {
				t.Fatal(s)
			}
			list = append(list, p)
		}
		return list
	}
	for texts, want := range map[string]string{"": "", "0": "a", "^0 2": "Ab", "1 0": "1", "^1 0": "2", "1 ^2": "3", "0 1 0 ^1 0 2": "a12b", "1 0 1 0": "11", "^0 ^2 0 2": "ABab"} {
		text, code := impl.TextOfPresses(keys, accents, press(texts))
		is(t, texts, all(text, code), want, impl.OK)
	}
	for _, texts := range []string{"1", "^1", "0 1", "1 0 ^1", "1 1", "1 1 0", "1 ^1 0", "1 ^0", "1 2", "^1 2", "^1 ^2", "0 1 2 0"} {
		text, code := impl.TextOfPresses(keys, accents, press(texts))
		is(t, texts, all(text, code), "", impl.ErrState)
	}
	text, code := impl.TextOfPresses(keys, nil, press("1 0"))
	is(t, "no accents", all(text, code), "", impl.ErrState)
}

func TestErrorsOfTextOfPresses(t *testing.T) {
	keys, accents := deskKeys()
	for _, k := range []int64{3, -1, 40, 1 << 32, -1 << 63, 1<<63 - 1} {
		for _, list := range [][]impl.Press{{{Key: k}}, {{Key: 0}, {Key: k, Shift: true}}, {{Key: 1}, {Key: k}}, {{Key: 1}, {Key: 1}, {Key: k}}, {{Key: k}, {Key: 1}}} {
			text, code := impl.TextOfPresses(keys, accents, list)
			is(t, "no index", all(text, code), "", impl.ErrRange)
			text, code = impl.TextOfPresses(append(keys, impl.Key{}), accents, list)
			is(t, "no keys", all(text, code), "", impl.ErrInvalid)
		}
	}
	text, code := impl.TextOfPresses(keys, accents, make([]impl.Press, 200))
	is(t, "200 presses", all(text, code), strings.Repeat("a", 200), impl.OK)
	list := make([]impl.Press, 201)
	list[0].Key = 1
	list[1].Key = 1
	text, code = impl.TextOfPresses(keys, accents, list)
	is(t, "201 presses", all(text, code), "", impl.ErrRange)
	text, code = impl.TextOfPresses(nil, nil, nil)
	is(t, "nothing", all(text, code), "", impl.OK)
	text, code = impl.TextOfPresses(nil, nil, make([]impl.Press, 1))
	is(t, "no keys", all(text, code), "", impl.ErrRange)
}

func TestShiftsOf(t *testing.T) {
	for shifts, want := range map[string]int64{"": 0, ".": 0, "..": 0, "^": 2, "^^": 2, ".^": 2, "^.": 2, ".^^.": 2, "^.^": 4, "..^.^..": 4, "^.^.": 4} {
		var list []impl.Press
		for i := range shifts {
			list = append(list, impl.Press{Key: int64(i) - 1<<62, Shift: shifts[i] == '^'}) // keys that no keyboard has
		}
		n, code := impl.ShiftsOf(list)
		is(t, shifts, all(n, code), want, impl.OK)
	}
	list := make([]impl.Press, 200, 201)
	for i := range list {
		list[i].Shift = i%2 == 0
	}
	n, code := impl.ShiftsOf(list)
	is(t, "200 presses", all(n, code), 200, impl.OK)
	n, code = impl.ShiftsOf(append(list, impl.Press{}))
	is(t, "201 presses", all(n, code), 0, impl.ErrRange)
}

func TestMissingLetters(t *testing.T) {
	keys, accents := deskKeys()
	for text, want := range map[string]string{"": "", "abAB123": "", "zaz'1": "'z", "^'": "'^", "~!4": "!4~", "4444": "4"} {
		got, code := impl.MissingLetters(keys, accents, text)
		is(t, text, all(got, code), want, impl.OK)
	}
	got, code := impl.MissingLetters(nil, nil, "ba")
	is(t, "no keys", all(got, code), "ab", impl.OK)
	got, code = impl.MissingLetters(keys, accents, strings.Repeat("z", 100))
	is(t, "100 bytes", all(got, code), "z", impl.OK)
	for _, text := range []string{" ", "z ", "\x7f", "\xff", "é", strings.Repeat("z", 101)} {
		got, code := impl.MissingLetters(keys, accents, text)
		is(t, text, all(got, code), "", impl.ErrRange)
		got, code = impl.MissingLetters(append(keys, keys[0]), accents, text)
		is(t, text, all(got, code), "", impl.ErrInvalid)
	}
}

func TestLettersOf(t *testing.T) {
	keys, accents := deskKeys()
	got, code := impl.LettersOf(keys, accents)
	is(t, "all", all(got, code), "123ABab", impl.OK)
	got, code = impl.LettersOf(keys, nil)
	is(t, "no accents", all(got, code), "ABab", impl.OK)
	got, code = impl.LettersOf(keys[1:2], nil)
	is(t, "a dead key", all(got, code), "", impl.OK)
	got, code = impl.LettersOf(nil, nil)
	is(t, "no keys", all(got, code), "", impl.OK)
	got, code = impl.LettersOf([]impl.Key{{Low: "~", High: "!"}}, nil)
	is(t, "both ends", all(got, code), "!~", impl.OK)
	got, code = impl.LettersOf(nil, accents)
	is(t, "accents without keys", all(got, code), "", impl.ErrInvalid)
}

func TestTextsOfPresses(t *testing.T) {
	for want, p := range map[string]impl.Press{"0": {}, "^0": {Shift: true}, "39": {Key: 39}, "^39": {Key: 39, Shift: true}, "^7": {Key: 7, Shift: true}} {
		is(t, want, all(impl.PressText(p)), want)
	}
	for _, k := range []int64{-1, 40, 41, 1 << 32, -1 << 63, 1<<63 - 1} {
		is(t, "no key", all(impl.PressText(impl.Press{Key: k}), impl.PressText(impl.Press{Key: k, Shift: true})), "", "")
	}
	for k := range int64(40) {
		for _, p := range []impl.Press{{Key: k}, {Key: k, Shift: true}} {
			got, ok := impl.ReadPress(impl.PressText(p))
			is(t, "read again", all(got, ok), p, true)
		}
	}
	for _, s := range []string{"", "^", "^^1", "1^", "40", "^40", "-1", "^-1", "-0", "01", "^01", "00", "+1", " 1", "1 ", "^ 1", "1a", "a", "\xff", "4294967296", "9223372036854775808"} {
		p, ok := impl.ReadPress(s)
		is(t, s, all(p, ok), impl.Press{}, false)
	}
}
