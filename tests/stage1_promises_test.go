package tests

import (
	"math/rand"
	"slices"
	"strings"
	"testing"

	"loop.example/g01045/impl"
)

// drawKeyboard returns some keys and accents, which need not be valid.
func drawKeyboard(r *rand.Rand) ([]impl.Key, []impl.Accent) {
	letters := strings.Split("abcdefghij'^`~", "")
	r.Shuffle(len(letters), func(i, k int) { letters[i], letters[k] = letters[k], letters[i] })
	var keys []impl.Key
	n := r.Intn(5)
	for i := range n {
		keys = append(keys, impl.Key{Low: letters[2*i], High: letters[2*i+1], Dead: r.Intn(2) == 0})
	}
	if n > 0 && r.Intn(4) == 0 {
		odd := []string{"", " ", "ab", "\x7f", "é", keys[0].Low, "!"}
		keys[r.Intn(n)].High = odd[r.Intn(len(odd))]
	}
	pick := func(dead bool) string {
		var fit []string
		for _, k := range keys {
			if k.Dead == dead {
				fit = append(fit, k.Low, k.High)
			}
		}
		if len(fit) == 0 || r.Intn(20) == 0 {
			return letters[r.Intn(len(letters))]
		}
		return fit[r.Intn(len(fit))]
	}
	var accents []impl.Accent
	for i := range r.Intn(4) {
		accents = append(accents, impl.Accent{Mark: pick(true), Letter: pick(false), Made: string(rune('1' + i - r.Intn(8)/7))})
	}
	return keys, accents
}

// validSlowly holds each rule of the document against all letters and accents.
func validSlowly(keys []impl.Key, accents []impl.Accent) bool {
	var live, dead []string
	for _, k := range keys {
		if k.Dead {
			dead = append(dead, k.Low, k.High)
		} else {
			live = append(live, k.Low, k.High)
		}
	}
	letter := func(s string) bool { return len(s) == 1 && s > " " && s < "\x7f" }
	letters := slices.Concat(live, dead)
	for i, s := range letters {
		if !letter(s) || slices.Contains(letters[:i], s) {
			return false
		}
	}
	for i, a := range accents {
		if !slices.Contains(dead, a.Mark) || !slices.Contains(live, a.Letter) || !letter(a.Made) || slices.Contains(letters, a.Made) {
			return false
		}
		for _, c := range accents[:i] {
			if a.Made == c.Made || a.Mark == c.Mark && a.Letter == c.Letter {
				return false
			}
		}
	}
	return len(keys) <= impl.MaxKeys && len(accents) <= impl.MaxAccents
}

// eachList calls see with all lists of at most most presses on the keys.
func eachList(keys []impl.Key, most int, list []impl.Press, see func(list []impl.Press)) {
	see(list)
	if most == 0 {
		return
	}
	for k := range keys {
		eachList(keys, most-1, append(list[:len(list):len(list)], impl.Press{Key: int64(k)}), see)
		eachList(keys, most-1, append(list[:len(list):len(list)], impl.Press{Key: int64(k), Shift: true}), see)
	}
}

// Promise 2: the presses that are told type the text, and no others do.
func TestPressesTypeTheirText(t *testing.T) {
	r := rand.New(rand.NewSource(3))
	valid, typed := 0, 0
	for range 600 {
		keys, accents := drawKeyboard(r)
		if impl.ValidKeys(keys, accents) != validSlowly(keys, accents) {
			t.Fatalf("ValidKeys(%+v, %+v) is %v", keys, accents, impl.ValidKeys(keys, accents))
		}
		if !impl.ValidKeys(keys, accents) {
			continue
		}
		valid++
		single := map[string]bool{}
		eachList(keys, 3, nil, func(list []impl.Press) {
			text, code := impl.TextOfPresses(keys, accents, list)
			if code == impl.ErrState {
				return
			}
			typed++
			told, toldCode := impl.PressesFor(keys, accents, text)
			if code != impl.OK || toldCode != impl.OK || !impl.SamePresses(told, list) {
				t.Fatalf("%v types %q (%d), for which %v (%d) is told", list, text, code, told, toldCode)
			}
			if len(text) == 1 {
				single[text] = true
			}
		})
		lettersAreThese(t, keys, accents, single)
	}
	if valid < 100 || typed < 1000 {
		t.Fatal("too few keyboards", valid, typed)
	}
}

// lettersAreThese fails the test unless just these letters can be typed.
func lettersAreThese(t *testing.T, keys []impl.Key, accents []impl.Accent, single map[string]bool) {
	t.Helper()
	var can, cannot string
	for c := byte(33); c <= 126; c++ {
		letter := string(rune(c))
		_, code := impl.PressesFor(keys, accents, letter)
		if single[letter] {
			can += letter
		} else {
			cannot += letter
		}
		if (code == impl.OK) != single[letter] || code != impl.OK && code != impl.ErrNotFound {
			t.Fatalf("%+v, %+v: PressesFor %q returns %d", keys, accents, letter, code)
		}
	}
	letters, code := impl.LettersOf(keys, accents)
	is(t, "LettersOf", all(letters, code), can, impl.OK)
	missing, code := impl.MissingLetters(keys, accents, cannot)
	is(t, "MissingLetters", all(missing, code), cannot, impl.OK)
	missing, code = impl.MissingLetters(keys, accents, can+cannot)
	is(t, "MissingLetters", all(missing, code), cannot, impl.OK)
}

func TestDrawnTextsAreTyped(t *testing.T) {
	r := rand.New(rand.NewSource(4))
	keys, accents := manyKeys(20, true), manyAccents(20)
	letters, code := impl.LettersOf(keys, accents)
	if code != impl.OK || len(letters) != 38+20 {
		t.Fatal(letters, code)
	}
	for range 300 {
		text := make([]byte, r.Intn(101))
		for i := range text {
			text[i] = letters[r.Intn(len(letters))]
		}
		list, code := impl.PressesFor(keys, accents, string(text))
		if code != impl.OK {
			t.Fatal(string(text), code)
		}
		got, code := impl.TextOfPresses(keys, accents, list)
		is(t, "typed", all(got, code), string(text), impl.OK)
	}
}

// Promise 1 for chapter 2.
func TestKeysArePure(t *testing.T) {
	deskK, deskA := deskKeys()
	wrong := impl.Accent{Mark: "'", Letter: "\xff"}
	for _, k := range [][]impl.Key{nil, deskK, manyKeys(40, true), manyKeys(41, false), {{}}, make([]impl.Key, 10000)} {
		for _, a := range [][]impl.Accent{nil, deskA, append(slices.Clone(deskA), wrong), make([]impl.Accent, 10000)} {
			keys, sameKeys := watched(k)
			accents, sameAccents := watched(a)
			callsArePure(t, keys, accents, sameKeys, sameAccents)
		}
	}
	for _, n := range oddNumbers() {
		for _, p := range []impl.Press{{Key: n}, {Key: n, Shift: true}} {
			isPure(t, "PressText", func() []any { return all(impl.PressText(p)) })
		}
	}
	for _, s := range oddTexts() {
		isCoded(t, "ReadPress", func() []any {
			p, ok := impl.ReadPress(s)
			return all(p, ok)
		})
	}
}

// callsArePure checks the functions that take these keys and accents, with all sorts of other arguments.
func callsArePure(t *testing.T, keys []impl.Key, accents []impl.Accent, unchanged ...func() bool) {
	isPure(t, "ValidKeys", func() []any { return all(impl.ValidKeys(keys, accents)) }, unchanged...)
	isCoded(t, "LettersOf", func() []any {
		s, code := impl.LettersOf(keys, accents)
		return all(s, code)
	}, unchanged...)
	for _, s := range oddTexts() {
		isCoded(t, "PressFor", func() []any {
			p, code := impl.PressFor(keys, s)
			return all(p, code)
		}, unchanged...)
		isCoded(t, "PressesFor", func() []any {
			list, code := impl.PressesFor(keys, accents, s)
			return all(list, code)
		}, unchanged...)
		isCoded(t, "MissingLetters", func() []any {
			missing, code := impl.MissingLetters(keys, accents, s)
			return all(missing, code)
		}, unchanged...)
	}
	for _, n := range oddNumbers() {
		for _, l := range [][]impl.Press{nil, {{Key: n}}, {{Key: 1}, {Key: n, Shift: true}}, slices.Repeat([]impl.Press{{Key: n}}, 200), make([]impl.Press, 10000)} {
			list, sameList := watched(l)
			watch := append(slices.Clone(unchanged), sameList)
			isCoded(t, "TextOfPresses", func() []any {
				s, code := impl.TextOfPresses(keys, accents, list)
				return all(s, code)
			}, watch...)
			isCoded(t, "ShiftsOf", func() []any {
				changes, code := impl.ShiftsOf(list)
				return all(changes, code)
			}, watch...)
			isPure(t, "SamePresses", func() []any { return all(impl.SamePresses(list, l)) }, watch...)
		}
	}
}
