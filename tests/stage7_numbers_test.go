package tests

import (
	"fmt"
	"slices"
	"strings"
	"testing"

	"loop.example/g01045/impl"
)

// noNumbers returns texts that are no numbers.
func noNumbers() []string {
	return []string{"", "-", ".", "-.", "-.5", ".5", "1.", "-1.", "1.2.3", "1..2", "1.2.", "..", "--1", "-1-", "1-", "1-2", "1.-2", "-1.-2", "- 1", "+1", "1,5", "x", "1x", "x1", "1.x", "1.5x", "0x1", "1e5", " 1", "1 ", "1 2", "1. 5", "1.5 ",
		" ", "1/", "1:", "/1", ":1", "1./", "1.:", "1\n", "1\x00", "\x001", "1.\xff", "é", "1é", "٣", "１", "1．5", strings.Repeat("-", 30), strings.Repeat(".", 30), strings.Repeat("1", 29) + ".", strings.Repeat("1", 29) + "x", "x" + strings.Repeat("1", 29)}
}

// longTexts returns texts with more bytes than a number may have; not all of them would be numbers.
func longTexts() []string {
	return []string{strings.Repeat("1", 31), "-" + strings.Repeat("1", 30), strings.Repeat("1", 29) + ".5", strings.Repeat("x", 31), strings.Repeat(" ", 31), strings.Repeat(".", 31), strings.Repeat("12", 50000)}
}

func TestDecimalStart(t *testing.T) {
	for _, c := range []struct {
		number       string
		column, want int64
		code         int64
	}{
		{"4.50", 10, 9, impl.OK},
		{"-12", 10, 7, impl.OK},
		{"12", 10, 8, impl.OK},
		{"-4.50", 10, 8, impl.OK},
		{"0", 1, 0, impl.OK},
		{"0.0", 1, 0, impl.OK},
		{"007", 10, 7, impl.OK},
		{"-0", 2, 0, impl.OK},
		{"-0.0", 2, 0, impl.OK},
		{"123", 3, 0, impl.OK},
		{"123", 2, 0, impl.ErrFull},
		{"-123", 4, 0, impl.OK},
		{"-123", 3, 0, impl.ErrFull},
		{"123.45", 3, 0, impl.OK},
		{"123.45", 2, 0, impl.ErrFull},
		{"-1.5", 2, 0, impl.OK},
		{"-1.5", 1, 0, impl.ErrFull},
		{"1", 0, 0, impl.ErrFull},
		{"1.5", 0, 0, impl.ErrFull},
		{"1", 119, 118, impl.OK},
		{"1.5", 119, 118, impl.OK},
		{"9876543210", 119, 109, impl.OK},
		{"1." + strings.Repeat("5", 28), 119, 118, impl.OK},
		{strings.Repeat("9", 30), 30, 0, impl.OK},
		{strings.Repeat("9", 30), 29, 0, impl.ErrFull},
		{"-" + strings.Repeat("9", 29), 119, 89, impl.OK},
		{strings.Repeat("9", 28) + ".0", 28, 0, impl.OK},
		{strings.Repeat("9", 28) + ".0", 27, 0, impl.ErrFull},
		{strings.Repeat("9", 30), 0, 0, impl.ErrFull},
	} {
		start, code := impl.DecimalStart(c.number, c.column)
		is(t, fmt.Sprint(c.number, " at ", c.column), all(start, code), c.want, c.code)
	}
}

func TestWrongDecimalStarts(t *testing.T) {
	for _, number := range slices.Concat(noNumbers(), longTexts(), []string{"4.50", "123", strings.Repeat("9", 30)}) {
		for _, column := range noColumns() {
			start, code := impl.DecimalStart(number, column)
			is(t, "no column", all(start, code), 0, impl.ErrRange)
		}
	}
	for _, column := range []int64{0, 1, 10, 119} {
		for _, number := range longTexts() {
			start, code := impl.DecimalStart(number, column)
			is(t, "a long text", all(start, code), 0, impl.ErrRange)
		}
		for _, number := range noNumbers() {
			start, code := impl.DecimalStart(number, column)
			is(t, "no number "+number, all(start, code), 0, impl.ErrSyntax)
		}
	}
}

func TestNumbersByEachByte(t *testing.T) {
	for c := range 256 {
		letter := string([]byte{byte(c)})
		for _, s := range []string{letter, "1" + letter, "1" + letter + "1", "1.1" + letter, letter + "1"} {
			whole, _, _ := strings.Cut(s, ".")
			want := []any{10 - len(whole), impl.OK}
			isDigit := c >= '0' && c <= '9'
			if !isDigit && s != "-1" && s != "1.1" {
				want = []any{0, impl.ErrSyntax}
			}
			start, code := impl.DecimalStart(s, 10)
			is(t, fmt.Sprintf("the number %q", s), all(start, code), want...)
			list, code := impl.AlignNumbers([]string{s})
			if want[1] == impl.OK {
				is(t, fmt.Sprintf("the only number %q", s), all(list, code), []string{s}, impl.OK)
			} else {
				is(t, fmt.Sprintf("the only text %q", s), all(list, code), []string{}, impl.ErrSyntax)
			}
		}
	}
}

func TestAlignNumbers(t *testing.T) {
	long := strings.Repeat("9", 30)
	for _, c := range []struct {
		name       string
		list, want []string
	}{
		{"the given example", []string{"4.50", "100", "-3.5"}, []string{"  4.50", "100", " -3.5"}},
		{"no number", nil, nil},
		{"an empty list", []string{}, nil},
		{"one number", []string{"4.50"}, []string{"4.50"}},
		{"one number without a point", []string{"-100"}, []string{"-100"}},
		{"equal numbers", []string{"1.5", "1.5"}, []string{"1.5", "1.5"}},
		{"with and without a point", []string{"1", "1.5", "10", "10.5"}, []string{" 1", " 1.5", "10", "10.5"}},
		{"the longest one is not the furthest left", []string{"1.23456", "12"}, []string{" 1.23456", "12"}},
		{"a sign counts", []string{"1", "-1"}, []string{" 1", "-1"}},
		{"the first one is the furthest left", []string{"1000.5", "1"}, []string{"1000.5", "   1"}},
		{"the last one is the furthest left", []string{"1", "22", "1000"}, []string{"   1", "  22", "1000"}},
		{"noughts count", []string{"007", "7", "0.07"}, []string{"007", "  7", "  0.07"}},
		{"the longest number", []string{long, "1"}, []string{long, strings.Repeat(" ", 29) + "1"}},
		{"the longest fraction", []string{"0." + long[:28], "22"}, []string{" 0." + long[:28], "22"}},
		{"the most numbers", append(repeated("1", 39), "10"), append(repeated(" 1", 39), "10")},
	} {
		list, code := impl.AlignNumbers(c.list)
		is(t, c.name, all(fmt.Sprintf("%q", list), code), fmt.Sprintf("%q", c.want), impl.OK)
	}
}

func TestWrongAlignNumbers(t *testing.T) {
	for _, list := range [][]string{repeated("1", 41), repeated("x", 41), repeated("", 41), repeated(strings.Repeat("1", 31), 41), repeated("1.5", 100000)} {
		aligned, code := impl.AlignNumbers(list)
		is(t, "too many numbers", all(aligned, code), []string{}, impl.ErrRange)
	}
	for _, long := range longTexts() {
		for _, list := range [][]string{{long}, {long, "1"}, {"1", long}, {"x", long}, {long, "x"}, {"1", "", long}, append(repeated("1", 39), long), append(repeated("x", 39), long)} {
			aligned, code := impl.AlignNumbers(list)
			is(t, "a number that is too long", all(aligned, code), []string{}, impl.ErrRange)
		}
	}
	for _, wrong := range noNumbers() {
		for _, list := range [][]string{{wrong}, {wrong, "1"}, {"1", wrong}, {"1", wrong, "2.5"}, {wrong, wrong}, append(repeated("1", 39), wrong)} {
			aligned, code := impl.AlignNumbers(list)
			is(t, "no number "+wrong, all(aligned, code), []string{}, impl.ErrSyntax)
		}
	}
}
