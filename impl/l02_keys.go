package impl

import (
	"slices"
	"strings"
)

// Limits of keys.
const (
	MaxKeys    = 40
	MaxAccents = 20
	MaxPresses = 200
)

const (
	firstLetter = '!'
	lastLetter  = '~'
	// maxKeyText is how many bytes a text that is typed with keys may have.
	maxKeyText = 100
)

// Fraction is a rational number.
type Fraction struct {
	Num int64
	Den int64
}

// Key is a key: the letters that it prints without and with shift, and whether it leaves the carriage where it is.
type Key struct {
	Low  string
	High string
	Dead bool
}

// Accent tells which letter arises from a dead key's letter and one that is typed over it.
type Accent struct {
	Mark   string
	Letter string
	Made   string
}

// Press is a key that is pressed, perhaps with shift.
type Press struct {
	Key   int64
	Shift bool
}

// spot is where a letter is on the keys.
type spot struct {
	press Press
	dead  bool
}

// overlay is a letter that is printed over the mark of a dead key.
type overlay struct {
	mark   string
	letter string
}

// keyboard is what keys and accents tell, to be looked up by letters.
type keyboard struct {
	spots    map[string]spot
	made     map[overlay]string
	overlays map[string]overlay
}

// newKeyboard returns the keyboard of keys and accents, and whether they are valid.
func newKeyboard(keys []Key, accents []Accent) (keyboard, bool) {
	if len(keys) > MaxKeys || len(accents) > MaxAccents {
		return keyboard{}, false
	}
	b := keyboard{map[string]spot{}, map[overlay]string{}, map[string]overlay{}}
	for i, k := range keys {
		low, high := Press{Key: int64(i)}, Press{Key: int64(i), Shift: true}
		if !b.addLetter(k.Low, spot{low, k.Dead}) || !b.addLetter(k.High, spot{high, k.Dead}) {
			return keyboard{}, false
		}
	}
	// Accents speak of all keys, so they come when each letter has its spot.
	for _, a := range accents {
		if !b.addAccent(a) {
			return keyboard{}, false
		}
	}
	return b, true
}

// addLetter puts a letter on its spot; false if it is none, or is on the keys already.
func (b keyboard) addLetter(letter string, s spot) bool {
	if _, twice := b.spots[letter]; twice || !isLetter(letter) {
		return false
	}
	b.spots[letter] = s
	return true
}

// addAccent adds an accent; false if it does not fit to the keys and to the accents before it.
func (b keyboard) addAccent(a Accent) bool {
	mark, hasMark := b.spots[a.Mark]
	letter, hasLetter := b.spots[a.Letter]
	if !hasMark || !mark.dead || !hasLetter || letter.dead {
		return false
	}
	over := overlay{a.Mark, a.Letter}
	_, onKey := b.spots[a.Made]
	_, madeTwice := b.overlays[a.Made]
	_, overTwice := b.made[over]
	if !isLetter(a.Made) || onKey || madeTwice || overTwice {
		return false
	}
	b.made[over] = a.Made
	b.overlays[a.Made] = over
	return true
}

// pressesOf returns the presses that type one letter, and whether there are any.
func (b keyboard) pressesOf(letter string) ([]Press, bool) {
	if s, onKey := b.spots[letter]; onKey && !s.dead {
		return []Press{s.press}, true
	}
	if over, made := b.overlays[letter]; made {
		return []Press{b.spots[over.mark].press, b.spots[over.letter].press}, true
	}
	return nil, false
}

// canType reports whether a letter can be typed.
func (b keyboard) canType(letter string) bool {
	_, ok := b.pressesOf(letter)
	return ok
}

// isLetter reports whether s is a letter: one byte from 33 to 126.
func isLetter(s string) bool { return len(s) == 1 && hasBytes(s, firstLetter, lastLetter, 1) }

// hasBytes reports whether s has at most most bytes, all from low to high.
func hasBytes(s string, low, high byte, most int) bool {
	if len(s) > most {
		return false
	}
	for i := range len(s) {
		if s[i] < low || s[i] > high {
			return false
		}
	}
	return true
}

// isKeyText reports whether s is a text that the functions on keys take.
func isKeyText(s string) bool { return hasBytes(s, firstLetter, lastLetter, maxKeyText) }

// lettersWith returns all letters for which has is true, by ascending bytes.
func lettersWith(has func(letter string) bool) string {
	var found strings.Builder
	for r := rune(firstLetter); r <= lastLetter; r++ {
		if has(string(r)) {
			found.WriteRune(r)
		}
	}
	return found.String()
}

// ValidKeys reports whether keys and accents are valid.
func ValidKeys(keys []Key, accents []Accent) bool {
	_, ok := newKeyboard(keys, accents)
	return ok
}

// SamePresses reports whether two lists of presses are equal.
func SamePresses(a, b []Press) bool { return slices.Equal(a, b) }

// PressFor returns the press that prints a letter.
func PressFor(keys []Key, letter string) (Press, int64) {
	b, ok := newKeyboard(keys, nil)
	if !ok {
		return Press{}, ErrInvalid
	}
	if !isLetter(letter) {
		return Press{}, ErrRange
	}
	s, onKey := b.spots[letter]
	if !onKey {
		return Press{}, ErrNotFound
	}
	return s.press, OK
}

// PressesFor returns the presses that type a text.
func PressesFor(keys []Key, accents []Accent, text string) ([]Press, int64) {
	b, ok := newKeyboard(keys, accents)
	if !ok {
		return nil, ErrInvalid
	}
	if !isKeyText(text) {
		return nil, ErrRange
	}
	var list []Press
	for _, r := range text {
		presses, ok := b.pressesOf(string(r))
		if !ok {
			return nil, ErrNotFound
		}
		list = append(list, presses...)
	}
	return list, OK
}

// TextOfPresses returns the text that presses type.
func TextOfPresses(keys []Key, accents []Accent, list []Press) (string, int64) {
	b, ok := newKeyboard(keys, accents)
	if !ok {
		return "", ErrInvalid
	}
	if !arePresses(keys, list) {
		return "", ErrRange
	}
	var text strings.Builder
	mark := "" // what a dead key has printed where the carriage still stands
	for _, p := range list {
		letter := printedBy(keys[p.Key], p.Shift)
		switch {
		case mark != "":
			made, ok := b.made[overlay{mark, letter}]
			if !ok {
				return "", ErrState
			}
			text.WriteString(made)
			mark = ""
		case keys[p.Key].Dead:
			mark = letter
		default:
			text.WriteString(letter)
		}
	}
	if mark != "" {
		return "", ErrState
	}
	return text.String(), OK
}

// arePresses reports whether list has at most MaxPresses presses, all of them on the keys.
func arePresses(keys []Key, list []Press) bool {
	if len(list) > MaxPresses {
		return false
	}
	for _, p := range list {
		if p.Key < 0 || p.Key >= int64(len(keys)) {
			return false
		}
	}
	return true
}

// printedBy returns the letter that a key prints.
func printedBy(k Key, shift bool) string {
	if shift {
		return k.High
	}
	return k.Low
}

// ShiftsOf returns how often the shift is pressed or let go.
func ShiftsOf(list []Press) (int64, int64) {
	if len(list) > MaxPresses {
		return 0, ErrRange
	}
	changes := int64(0)
	down := false
	for _, p := range list {
		if p.Shift != down {
			changes++
			down = p.Shift
		}
	}
	if down { // it is let go behind the last press
		changes++
	}
	return changes, OK
}

// MissingLetters returns the letters of a text that cannot be typed.
func MissingLetters(keys []Key, accents []Accent, text string) (string, int64) {
	b, ok := newKeyboard(keys, accents)
	if !ok {
		return "", ErrInvalid
	}
	if !isKeyText(text) {
		return "", ErrRange
	}
	return lettersWith(func(letter string) bool {
		return strings.Contains(text, letter) && !b.canType(letter)
	}), OK
}

// LettersOf returns all letters that can be typed.
func LettersOf(keys []Key, accents []Accent) (string, int64) {
	b, ok := newKeyboard(keys, accents)
	if !ok {
		return "", ErrInvalid
	}
	return lettersWith(b.canType), OK
}

// PressText returns the text form of a press.
func PressText(p Press) string {
	if p.Key < 0 || p.Key >= MaxKeys {
		return ""
	}
	if p.Shift {
		return "^" + Decimal(p.Key)
	}
	return Decimal(p.Key)
}

// ReadPress returns the press with a text form.
func ReadPress(s string) (Press, bool) {
	number, shift := strings.CutPrefix(s, "^")
	key, ok := ReadDecimal(number)
	p := Press{Key: key, Shift: shift}
	if !ok || PressText(p) != s {
		return Press{}, false
	}
	return p, true
}
