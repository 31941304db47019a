package tests

import (
	"fmt"
	"reflect"
	"slices"
	"testing"

	"loop.example/g01045/impl"
)

// is fails the test unless got and want print alike; nil and empty slices are equivalent.
func is(t *testing.T, name string, got []any, want ...any) {
	t.Helper()
	if g, w := fmt.Sprintf("%+v", got), fmt.Sprintf("%+v", want); g != w {
		t.Errorf("%s: got %s, want %s", name, g, w)
	}
}

// all makes a list of the results of a call.
func all(results ...any) []any { return results }

// watched returns a copy of list with unused capacity, and a function that
// reports whether the copy and its unused capacity are as they were.
func watched[T comparable](list []T) ([]T, func() bool) {
	var fill T
	if len(list) > 0 {
		fill = list[0]
	}
	full := append(slices.Clone(list), fill, fill, fill)
	before := slices.Clone(full)
	return full[:len(list)], func() bool { return slices.Equal(full, before) }
}

// isPure fails the test unless calls give equal results, the second one after
// the slices of the first result have been overwritten, and change no argument.
func isPure(t *testing.T, name string, call func() []any, unchanged ...func() bool) {
	t.Helper()
	results := call()
	before := fmt.Sprintf("%#v", results)
	for _, r := range results {
		overwrite(r)
	}
	for _, same := range unchanged {
		if !same() {
			t.Fatalf("%s: an argument has changed, or shares memory with the result", name)
		}
	}
	if again := fmt.Sprintf("%#v", call()); again != before {
		t.Fatalf("%s: first %s, then %s", name, before, again)
	}
}

// watchedTable is watched for a list of rows, of which each has unused capacity too, which is filled.
func watchedTable[T comparable](rows [][]T, fill T) ([][]T, func() bool) {
	var full, before [][]T
	for _, row := range rows {
		full = append(full, append(slices.Clone(row), fill, fill, fill))
		before = append(before, append(slices.Clone(row), fill, fill, fill))
	}
	table := make([][]T, len(rows), len(rows)+1)
	for i, row := range rows {
		table[i] = full[i][:len(row)]
	}
	spare := table[:len(rows)+1]
	return table, func() bool {
		for i, row := range rows {
			if len(table[i]) != len(row) || len(row) > 0 && &table[i][0] != &full[i][0] {
				return false
			}
		}
		return spare[len(rows)] == nil && reflect.DeepEqual(full, before)
	}
}

// overwrite puts zero values into a slice, into its unused capacity, and into the slices in it.
func overwrite(result any) {
	v := reflect.ValueOf(result)
	if v.Kind() != reflect.Slice {
		return
	}
	v = v.Slice(0, v.Cap())
	for i := range v.Len() {
		overwrite(v.Index(i).Interface())
		v.Index(i).SetZero()
	}
}

// isCoded is isPure for a call whose last result is a code or a boolean that
// tells whether there is a result: if there is none, the others must be zero.
func isCoded(t *testing.T, name string, call func() []any, unchanged ...func() bool) {
	t.Helper()
	results := call()
	n := len(results) - 1
	var failed bool
	switch last := results[n].(type) {
	case int64:
		failed = last != impl.OK
		if impl.CodeName(last) == "" {
			t.Fatalf("%s: the code %d has no name", name, last)
		}
	case bool:
		failed = !last
	}
	for _, r := range results[:n] {
		v := reflect.ValueOf(r)
		empty := v.Kind() == reflect.Slice && v.Len() == 0
		if failed && !empty && !v.IsZero() {
			t.Fatalf("%s: %+v beside %v", name, r, results[n])
		}
	}
	isPure(t, name, call, unchanged...)
}

// oddTexts are texts of all sorts, most of which no function takes.
func oddTexts() []string {
	long := make([]byte, 100000)
	for i := range long {
		long[i] = byte(i)
	}
	return []string{"", " ", "  ", "a", "A", "b", "'", "^", "!", "~", "1", "2", "ab", "a b", " a  b ",
		"\x00", "\x1f", "\x7f", "\x80", "\xff", "\xc3", "é", "日本", "\n", "a\tb", "-", "+", "^^", "^0", "^39",
		"^40", "39", "40", "-1", "--1", "0x1", "999999999999999999", "9999999999999999999", "aB21", string(long)}
}

// oddNumbers are numbers of all sorts.
func oddNumbers() []int64 {
	return []int64{-1 << 63, -1<<63 + 1, -1 << 32, -41, -1, 0, 1, 2, 3, 9, 10, 11, 39, 40, 41, 199, 200, 201, 1 << 32, 1<<63 - 2, 1<<63 - 1}
}
