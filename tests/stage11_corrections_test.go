package tests

import (
	"fmt"
	"slices"
	"strings"
	"testing"

	"loop.example/g01045/impl"
)

// over returns the rule of three texts.
func over(under, top, seen string) impl.Over {
	return impl.Over{Under: under, Top: top, Seen: seen}
}

// oversOf returns the rules with the letters of texts, each one of Under, Top and Seen.
func oversOf(texts ...string) []impl.Over {
	rules := []impl.Over{}
	for _, s := range texts {
		rules = append(rules, over(s[:1], s[1:2], s[2:]))
	}
	return rules
}

// fullOvers has MaxOvers rules, with the least and the greatest letter in all places.
func fullOvers() []impl.Over {
	rules := oversOf("c/0", "l-t", "o|Q", "!~a", "~a!", "a!~", "<=>", "=><", "><=", "#.+")
	for i := range 10 {
		rules = append(rules, over("z", "ABCDEFGHIJ"[i:i+1], "k"))
	}
	return rules
}

// rightOvers returns lists of rules that are valid.
func rightOvers() [][]impl.Over {
	return [][]impl.Over{nil, {}, oversOf("c/0"), oversOf("!~a"), oversOf("c/0", "l-t"), oversOf("c/0", "/c0"), oversOf("c/0", "c0/"), oversOf("c/0", "c-0"), oversOf("c/0", "l/0"), oversOf("abc", "bca", "cab"), oversOf("abc", "acb", "bac", "bca", "cab", "cba"), fullOvers()[:19], fullOvers()[1:], fullOvers()}
}

// wrongRules returns single rules that are not valid.
func wrongRules() []impl.Over {
	rules := oversOf("cc0", "c/c", "c//", "ccc", "!!~", "~!~")
	for _, s := range []string{"", " ", "\x00", "\x1f", "\x7f", "\x80", "\xff", "ab", "a ", " a", "é", "日", "  ", "\n", "aa", x(100000)} {
		rules = append(rules, over(s, "/", "0"), over("c", s, "0"), over("c", "/", s), over(s, s, "0"), over(s, s, s))
	}
	return rules
}

// wrongOvers returns lists of rules that are not valid.
func wrongOvers() [][]impl.Over {
	list := [][]impl.Over{append(fullOvers(), over("y", "A", "k")), append(fullOvers(), fullOvers()...), append(fullOvers(), over("", "", "")), repeated(over("c", "/", "0"), 21), repeated(over("c", "/", "0"), 100000),
		oversOf("c/0", "c/0"), oversOf("c/0", "c/1"), oversOf("c/0", "l-t", "c/1"), oversOf("l-t", "c/0", "c/0"), append(fullOvers()[:19:19], over("c", "/", "x")), append(fullOvers()[:19:19], fullOvers()[18])}
	for _, x := range wrongRules() {
		list = append(list, []impl.Over{x}, append(oversOf("l-t"), x), []impl.Over{x, over("l", "-", "t")}, append(fullOvers()[:19:19], x), append(fullOvers(), x))
	}
	return list
}

// cutOvers begins the text of rules for a name.
func cutOvers(rules []impl.Over) string { return fmt.Sprintf("%.80q", fmt.Sprint(rules)) }

func TestValidOvers(t *testing.T) {
	is(t, "limits", all(impl.MaxCorrect, impl.MaxOvers, impl.MaxErased), 60, 20, 3)
	for _, rules := range rightOvers() {
		is(t, cutOvers(rules), all(impl.ValidOvers(rules)), true)
	}
	for _, rules := range wrongOvers() {
		is(t, cutOvers(rules), all(impl.ValidOvers(rules)), false)
	}
	is(t, "the most rules", all(len(fullOvers())), 20)
}

// Each byte is a letter of a rule or not, in each of its places.
func TestOversByEachByte(t *testing.T) {
	for c := range 256 {
		s := string([]byte{byte(c)})
		isRight := c >= 33 && c <= 126
		for _, x := range []impl.Over{over(s, "/", "0"), over("c", s, "0"), over("c", "/", s)} {
			isOne := isRight && x.Under != x.Top && x.Top != x.Seen && x.Under != x.Seen
			is(t, fmt.Sprintf("the rule %q", x), all(impl.ValidOvers([]impl.Over{x})), isOne)
			text := x.Under + "<" + x.Top + "=" + x.Seen
			back, ok := impl.ReadOver(text)
			if isOne {
				is(t, "its text", all(impl.OverText(x), back, ok), text, x, true)
			} else {
				is(t, fmt.Sprintf("no text: %q", x), all(one(impl.OverText(x)), back, ok), one(""), impl.Over{}, false)
			}
		}
	}
}

func TestSeenOver(t *testing.T) {
	for _, c := range []struct {
		name, under, top, want string
	}{
		{"a rule", "l", "-", "t"},
		{"the example's rule", "c", "/", "0"},
		{"the last rule", "z", "J", "k"},
		{"the least letter under the greatest", "!", "~", "a"},
		{"the greatest letter under another one", "~", "a", "!"},
		{"the greatest letter is seen", "a", "!", "~"},
		{"one of several with the same Under and Seen", "z", "E", "k"},
		{"a letter over itself", "c", "c", "c"},
		{"a letter over itself that is in no rule", "x", "x", "x"},
		{"the least letter over itself", "!", "!", "!"},
		{"a blank over a blank", " ", " ", " "},
		{"a letter over a blank", " ", "-", "-"},
		{"a letter over a blank, which is Under of a rule", " ", "c", "c"},
		{"the greatest letter over a blank", " ", "~", "~"},
		{"a blank over a letter", "c", " ", "c"},
		{"a blank over the greatest letter", "~", " ", "~"},
	} {
		seen, code := impl.SeenOver(fullOvers(), c.under, c.top)
		is(t, c.name, all(one(seen), code), one(c.want), impl.OK)
	}
	for _, c := range []struct{ name, under, top string }{
		{"no rule for both", "a", "-"},
		{"a rule the other way round", "/", "c"},
		{"what is seen over Under", "c", "0"},
		{"Top over what is seen", "0", "/"},
		{"Under of a rule with Top of another one", "c", "-"},
		{"the least letter over the greatest one", "~", "!"},
	} {
		seen, code := impl.SeenOver(fullOvers(), c.under, c.top)
		is(t, c.name, all(one(seen), code), one(""), impl.ErrNotFound)
	}
	seen, code := impl.SeenOver(nil, "c", "/")
	is(t, "without rules", all(one(seen), code), one(""), impl.ErrNotFound)
	seen, code = impl.SeenOver(oversOf("c/0", "/c1"), "/", "c")
	is(t, "rules for both ways", all(one(seen), code), one("1"), impl.OK)
}

// noTypedBytes returns texts that are neither a letter nor a blank.
func noTypedBytes() []string {
	return []string{"", "ab", "aa", "  ", " a", "a ", "\x00", "\x1f", "\x7f", "\x80", "\xff", "\n", "é", "\u00a0", "日", x(60), x(100000)}
}

func TestNothingSeenOver(t *testing.T) {
	for _, s := range noTypedBytes() {
		for _, other := range append(noTypedBytes(), "a", " ", "c", "/") {
			for _, pair := range [][2]string{{s, other}, {other, s}} {
				seen, code := impl.SeenOver(fullOvers(), pair[0], pair[1])
				is(t, fmt.Sprintf("SeenOver %.60q", pair), all(one(seen), code), one(""), impl.ErrRange)
			}
		}
	}
	for _, rules := range wrongOvers() {
		for _, pair := range [][2]string{{"c", "/"}, {"a", "a"}, {"x", "y"}, {"", "a"}, {"a", "ab"}, {"\x1f", "\x7f"}} {
			seen, code := impl.SeenOver(rules, pair[0], pair[1])
			is(t, "SeenOver without valid rules: "+cutOvers(rules), all(one(seen), code), one(""), impl.ErrInvalid)
		}
	}
	for c := range 256 {
		s := string([]byte{byte(c)})
		want := all(one(s), impl.OK)
		if c < 32 || c > 126 {
			want = all(one(""), impl.ErrRange)
		}
		upper, code := impl.SeenOver(nil, " ", s)
		is(t, fmt.Sprintf("%q over a blank", s), all(one(upper), code), want...)
		under, code := impl.SeenOver(nil, s, " ")
		is(t, fmt.Sprintf("a blank over %q", s), all(one(under), code), want...)
	}
}

// lineCase is a line, what it shall be made into, and how this is done.
type lineCase struct {
	name, typed, want, plan, letters string
}

// lineCases returns lines with their plans by fullOvers.
func lineCases() []lineCase {
	return []lineCase{
		{"the example", "cat", "0at", "+..", "/  "},
		{"no byte", "", "", "", ""},
		{"equal lines", "cat", "cat", "...", "   "},
		{"equal blanks", "   ", "   ", "...", "   "},
		{"a letter for a blank", " ", "c", "+", "c"},
		{"letters for blanks, the least and the greatest", "  ", "!~", "++", "!~"},
		{"a blank for a letter", "c", " ", "#", " "},
		{"a letter without a rule", "x", "y", "#", "y"},
		{"a rule the other way round", "0", "c", "#", "c"},
		{"a rule with this Top, not this Seen", "c", "/", "#", "/"},
		{"a rule from Top to Seen", "/", "0", "#", "0"},
		{"a rule with another Under", "l", "0", "#", "0"},
		{"several rules with the same Under and Seen", "z", "k", "+", "A"},
		{"rules with the least and the greatest letter", "!~a", "a!~", "+++", "~a!"},
		{"rules with letters like signs", "<=>#", "><=+", "++++", "=><."},
		{"letters like signs, without rules", ".+.", "+.#", "###", "+.#"},
		{"all sorts", "l a cx", "t bdc ", "+.#+.#", "- bd  "},
		{"all sorts of blanks", " a a", "a  a", "+#..", "a   "},
		{"each place by itself", "ccc", "0c0", "+.+", "/ /"},
		{"MaxCorrect bytes", x(60), x(60), strings.Repeat(".", 60), gap(60)},
		{"MaxCorrect bytes that are erased", x(60), gap(60), strings.Repeat("#", 60), gap(60)},
		{"MaxCorrect bytes that are typed over", strings.Repeat("cl", 30), strings.Repeat("0t", 30), strings.Repeat("+", 60), strings.Repeat("/-", 30)},
		{"only the last one of MaxCorrect bytes", x(59) + "c", x(59) + "0", strings.Repeat(".", 59) + "+", gap(59) + "/"},
	}
}

func TestCorrectionPlan(t *testing.T) {
	for _, c := range lineCases() {
		plan, letters, code := impl.CorrectionPlan(fullOvers(), c.typed, c.want)
		is(t, "CorrectionPlan, "+c.name, all(one(plan), one(letters), code), one(c.plan), one(c.letters), impl.OK)
		many, code := impl.FewestErased(fullOvers(), c.typed, c.want)
		is(t, "FewestErased, "+c.name, all(many, code), strings.Count(c.plan, "#"), impl.OK)
		many, code = impl.ErasedIn(c.plan)
		is(t, "ErasedIn, "+c.name, all(many, code), strings.Count(c.plan, "#"), impl.OK)
		line, code := impl.ApplyPlan(fullOvers(), c.typed, c.plan, c.letters)
		is(t, "ApplyPlan, "+c.name, all(one(line), code), one(c.want), impl.OK)
	}
	for _, c := range []struct {
		name  string
		rules []impl.Over
		top   string
	}{
		{"the least Top is the first", oversOf("a1b", "a2b", "a3b"), "1"},
		{"the least Top is the last", oversOf("a3b", "a2b", "a1b"), "1"},
		{"the least Top is between others", oversOf("a3b", "a1b", "a2b"), "1"},
		{"a lesser Top for another Seen", oversOf("a1c", "a3b", "a2b"), "2"},
		{"a lesser Top for another Under", oversOf("c1b", "a3b", "a2b"), "2"},
		{"the least letter", oversOf("a~b", "a!b"), "!"},
		{"the least byte, not the least letter of the alphabet", oversOf("axb", "aZb"), "Z"},
	} {
		plan, letters, code := impl.CorrectionPlan(c.rules, "a", "b")
		is(t, c.name, all(plan, letters, code), "+", c.top, impl.OK)
	}
	plan, letters, code := impl.CorrectionPlan(nil, "cat ", "0ats")
	is(t, "without rules", all(plan, one(letters), code), "#..+", one("0  s"), impl.OK)
}

// noTypedLines returns texts that are no lines.
func noTypedLines() []string {
	list := []string{x(61), gap(61), x(60) + " ", " " + x(60), x(62), x(120), x(100000), "é", "日", "a\u00a0b", "a\tb", "a\nb", "a\x1f", "\x1fa", "a\x7f", "\x7fa", "a\x1fb", "a \x7f b", x(59) + "\x7f", x(59) + "\x1f", x(59) + "é", x(60) + "\x7f"}
	for _, c := range []byte{0, 9, 10, 11, 12, 13, 31, 127, 128, 133, 160, 255} {
		list = append(list, string([]byte{c}), string([]byte{'a', c, 'a'}))
	}
	return list
}

// correctingReturns checks what the functions on rules and two lines return if there is no result.
func correctingReturns(t *testing.T, rules []impl.Over, typed, other string, want int64) {
	t.Helper()
	name := fmt.Sprintf(" of %.60q and %.60q", typed, other)
	plan, letters, code := impl.CorrectionPlan(rules, typed, other)
	is(t, "CorrectionPlan"+name, all(one(plan), one(letters), code), one(""), one(""), want)
	many, code := impl.FewestErased(rules, typed, other)
	is(t, "FewestErased"+name, all(many, code), 0, want)
	// Neither what plan it is nor how long it is matters before the lines are right.
	for _, plan := range []string{"", ".", "+", "#", "?", "..", "....", strings.Repeat("+", 60), strings.Repeat("+", 61)} {
		line, code := impl.ApplyPlan(rules, typed, plan, other)
		is(t, fmt.Sprintf("ApplyPlan %.60q", plan)+name, all(one(line), code), one(""), want)
	}
}

func TestNoCorrections(t *testing.T) {
	for _, line := range noTypedLines() {
		for _, other := range append(noTypedLines(), "", "a", "cat", x(60), gap(60), x(len(line)%100)) {
			correctingReturns(t, fullOvers(), line, other, impl.ErrRange)
			correctingReturns(t, nil, other, line, impl.ErrRange)
		}
		correctingReturns(t, wrongOvers()[0], line, line, impl.ErrInvalid)
	}
	for _, pair := range [][2]string{{"", "a"}, {"", " "}, {"a", "ab"}, {"cat", "ca"}, {"cat", "cat "}, {x(59), x(60)}, {x(60), ""}, {gap(1), gap(2)}, {"a", x(60)}} {
		correctingReturns(t, fullOvers(), pair[0], pair[1], impl.ErrFormat)
		correctingReturns(t, nil, pair[1], pair[0], impl.ErrFormat)
	}
	for _, rules := range wrongOvers() {
		for _, pair := range [][2]string{{"", ""}, {"cat", "0at"}, {"a", "ab"}, {"\x1f", "\x7f"}, {x(61), "a"}} {
			correctingReturns(t, rules, pair[0], pair[1], impl.ErrInvalid)
		}
	}
}

// Each byte is in a line or not, in each of the functions that take lines.
func TestTypedLinesByEachByte(t *testing.T) {
	for c := range 256 {
		line := "a" + string([]byte{byte(c)}) + "b"
		want, wrong := int64(impl.OK), []int64{}
		if c < 32 || c > 126 {
			want = impl.ErrRange
		} else if c != 'x' {
			wrong = []int64{1}
		}
		for _, pair := range [][2]string{{line, "axb"}, {"axb", line}} {
			_, _, code := impl.CorrectionPlan(nil, pair[0], pair[1])
			_, other := impl.FewestErased(nil, pair[0], pair[1])
			_, third := impl.ApplyPlan(nil, pair[0], "...", pair[1])
			_, many, fourth := impl.ShiftedMatch(pair[0], pair[1], 0)
			places, fifth := impl.WrongPlaces(pair[0], pair[1])
			is(t, fmt.Sprintf("lines %q", pair), all(code, other, third, many, fourth, places, fifth), want, want, want, len(wrong), want, wrong, want)
		}
	}
}

// noCorrectionPlans returns texts that are no plans of corrections.
func noCorrectionPlans() []string {
	list := []string{"x", " ", ". .", ".+#x", "x.+#", "..x..", ".+# ", "a", "'a", "<", ">", "é", "日", "\x00", "\x1f", "\x7f", "\xff", ".\n", "#\x00", "\uff0e", "\uff0b", "\uff03",
		strings.Repeat(".", 61), strings.Repeat("#", 61), strings.Repeat("+", 62), strings.Repeat("#", 100000), strings.Repeat(".", 60) + "x", strings.Repeat(".", 59) + "x", strings.Repeat("#", 59) + " ", x(61)}
	for c := range 256 {
		if !strings.ContainsRune(".+#", rune(c)) {
			list = append(list, string([]byte{byte(c)}), string([]byte{'#', byte(c), '.'}))
		}
	}
	return list
}

func TestErasedIn(t *testing.T) {
	for _, c := range []struct {
		plan string
		want int64
	}{
		{"", 0}, {".", 0}, {"+", 0}, {"#", 1}, {".+#", 1}, {"#.+", 1}, {"##", 2}, {"#.#+#", 3}, {"+.+.", 0}, {".####", 4},
		{strings.Repeat("#", 59), 59}, {strings.Repeat("#", 60), 60}, {strings.Repeat(".", 60), 0}, {strings.Repeat("+", 59) + "#", 1}, {strings.Repeat("#.+", 20), 20},
	} {
		many, code := impl.ErasedIn(c.plan)
		is(t, fmt.Sprintf("%q", c.plan), all(many, code), c.want, impl.OK)
	}
	for _, plan := range noCorrectionPlans() {
		many, code := impl.ErasedIn(plan)
		is(t, fmt.Sprintf("no plan: %.60q", plan), all(many, code), 0, impl.ErrSyntax)
	}
}

func TestApplyPlan(t *testing.T) {
	for _, c := range []struct{ name, typed, plan, letters, want string }{
		{"no byte", "", "", "", ""},
		{"the example", "cat", "+..", "/  ", "0at"},
		{"places are left, whatever the letters are", "c a", "...", "/x~", "c a"},
		{"a letter over itself", "c", "+", "c", "c"},
		{"a letter over a blank", " ", "+", "c", "c"},
		{"a blank over a letter", "c", "+", " ", "c"},
		{"a blank over a blank", " ", "+", " ", " "},
		{"a Top that is not the least one", "z", "+", "J", "k"},
		{"a place is erased", "c", "#", "x", "x"},
		{"a place is erased, and a letter with a rule typed", "c", "#", "/", "/"},
		{"a place is erased, and the same letter typed", "c", "#", "c", "c"},
		{"a place is erased, and left blank", "c", "#", " ", " "},
		{"a blank is erased", " ", "#", "c", "c"},
		{"a blank is erased, and left blank", " ", "#", " ", " "},
		{"the least and the greatest letter", "!~", "+#", "~!", "a!"},
		{"letters like signs", "#.+", "+.#", ".+#", "+.#"},
		{"all sorts", "l a cx", "+.#+.#", "- bd  ", "t bdc "},
		{"MaxCorrect bytes", strings.Repeat("c", 60), strings.Repeat("+.#", 20), strings.Repeat("/", 60), strings.Repeat("0c/", 20)},
	} {
		line, code := impl.ApplyPlan(fullOvers(), c.typed, c.plan, c.letters)
		is(t, c.name, all(one(line), code), one(c.want), impl.OK)
	}
	for _, c := range []struct {
		name, typed, plan, letters string
		want                       int64
	}{
		{"no plan", "cat", "..?", "   ", impl.ErrSyntax},
		{"no plan, at the first place", "cat", "x..", "   ", impl.ErrSyntax},
		{"no plan, which is too short", "cat", "?", "   ", impl.ErrSyntax},
		{"no plan, which is too long", "cat", "....?", "   ", impl.ErrSyntax},
		{"no plan behind a place that cannot be read", "cat", "+.?", "x  ", impl.ErrSyntax},
		{"a plan of MaxCorrect bytes and one more", x(60), strings.Repeat(".", 61), x(60), impl.ErrSyntax},
		{"a plan for no line", "", ".", "", impl.ErrState},
		{"a plan of MaxCorrect bytes for no line", "", strings.Repeat(".", 60), "", impl.ErrState},
		{"no plan for a line", "cat", "", "   ", impl.ErrState},
		{"a plan that is shorter by one", "cat", "..", "   ", impl.ErrState},
		{"a plan that is longer by one", "cat", "....", "   ", impl.ErrState},
		{"a plan that is shorter, with a place that cannot be read", "cat", "++", "xxx", impl.ErrState},
		{"a plan that is longer, with a place that cannot be read", "cat", "++++", "xxx", impl.ErrState},
		{"the longest line, and a plan that is shorter by one", x(60), strings.Repeat(".", 59), x(60), impl.ErrState},
		{"a place that cannot be read", "cat", "+..", "x  ", impl.ErrNotFound},
		{"the last place cannot be read", "cat", "..+", "  x", impl.ErrNotFound},
		{"a rule the other way round", "/", "+", "c", impl.ErrNotFound},
		{"one of several places cannot be read", "lcat", "++#+", "-/xx", impl.ErrNotFound},
		{"what is seen is no rule for what is typed", "c", "+", "0", impl.ErrNotFound},
	} {
		line, code := impl.ApplyPlan(fullOvers(), c.typed, c.plan, c.letters)
		is(t, c.name, all(one(line), code), one(""), c.want)
	}
	for _, plan := range noCorrectionPlans() {
		for _, typed := range []string{"", "c", "cat", x(60), x(min(60, len(plan)))} {
			line, code := impl.ApplyPlan(fullOvers(), typed, plan, typed)
			is(t, fmt.Sprintf("no plan: %.60q", plan), all(one(line), code), one(""), impl.ErrSyntax)
		}
	}
}

func TestWornPlaces(t *testing.T) {
	full, bare := strings.Repeat("#", 60), strings.Repeat(".", 60)
	for _, c := range []struct {
		name  string
		plans []string
		want  []int64
	}{
		{"no plans", nil, nil},
		{"an empty list", []string{}, nil},
		{"plans of no byte", repeated("", 20), nil},
		{"one plan", []string{full}, nil},
		{"MaxErased plans", repeated("#", 3), nil},
		{"one plan more", repeated("#", 4), []int64{0}},
		{"MaxErased plans that erase it, and others that do not", append(repeated("#", 3), ".", "+", "", ".#"), nil},
		{"MaxErased plans and one more, with others between them", []string{"#", ".", "#", "+", "", "#", ".#", "#"}, []int64{0}},
		{"plans of different lengths", []string{"#.", "##", "#+", "#"}, []int64{0}},
		{"some places", repeated("#.#+#", 4), []int64{0, 2, 4}},
		{"places of different plans", []string{"#.", "#.", ".#", ".#", "#.", ".#"}, nil},
		{"two places of overlapping plans", []string{"#.", "##", "##", "##", ".#"}, []int64{0, 1}},
		{"the last place", repeated(bare[:59]+"#", 4), []int64{59}},
		{"all places", repeated(full, 4), append([]int64{0}, upTo(59)...)},
		{"places that are typed over only", repeated(strings.Repeat("+", 60), 20), nil},
		{"20 plans", repeated("#", 20), []int64{0}},
		{"20 plans, of which the last ones erase a place", append(repeated(bare, 16), repeated(bare[:30]+"#", 4)...), []int64{30}},
		{"20 plans, of which one less erases it", append(repeated(bare, 17), repeated(bare[:30]+"#", 3)...), nil},
	} {
		places, code := impl.WornPlaces(c.plans)
		is(t, c.name, all(places, code), c.want, impl.OK)
	}
	for _, plans := range [][]string{repeated("", 21), repeated("#", 21), repeated(full, 21), repeated("#", 22), repeated(".", 100000)} {
		places, code := impl.WornPlaces(plans)
		is(t, fmt.Sprint(len(plans), " plans"), all(places, code), []int64{}, impl.ErrRange)
	}
	for _, plan := range noCorrectionPlans() {
		for _, plans := range [][]string{{plan}, {plan, "#"}, {"#", plan}, {"#", plan, "."}, append(repeated("#", 19), plan), append(repeated("#", 20), plan), append([]string{plan}, repeated("#", 20)...), append(repeated("#", 100), plan)} {
			places, code := impl.WornPlaces(plans)
			is(t, fmt.Sprintf("no plan: %.60q", plan), all(places, code), []int64{}, impl.ErrSyntax)
		}
	}
}

func TestShiftedMatch(t *testing.T) {
	for _, c := range []struct {
		name, typed, want string
		most, shift, many int64
	}{
		{"a line that begins too early", "abc", " abc", 2, 1, 0},
		{"a letter too many in front", "abc", "bc", 2, -1, 1},
		{"equal lines", "abc", "abc", 60, 0, 0},
		{"no bytes", "", "", 60, 0, 0},
		{"blanks only", gap(60), "", 60, 0, 0},
		{"no byte, and letters", "", "abc", 60, 0, 3},
		{"letters, and no byte: no shift takes them away", "abc", "", 60, 0, 3},
		{"the longest line, and no byte", x(60), "", 60, 0, 60},
		{"blanks behind a line do not matter", "abc", "abc   ", 60, 0, 0},
		{"blanks in front of a line are like a shift", "   abc", "abc", 3, -3, 0},
		{"a shift that is too far, and one that helps a little", "   abc", "abc", 2, -2, 4},
		{"two that help a little: the nearer one", "   aba", "aba", 2, -1, 4},
		{"a shift of most", "abc", "  abc", 2, 2, 0},
		{"a shift of -most", "  abc", "abc", 2, -2, 0},
		{"no shift may be", "abc", " abc", 0, 0, 4},
		{"a shift and its negative one: the negative one", "a", " ", 1, 0, 1},
		{"both ways are equally good", " a", "a a", 1, -1, 1},
		{"both ways are equally good, further away", "  a", "a   a", 2, -2, 1},
		{"both ways are equally good, and no shift is, too", "  a", "a a a", 2, 0, 2},
		{"the nearer one of two", "   a", "a    a", 4, 2, 1},
		{"the nearer one of two, which is negative", "  a", "a    a", 4, -2, 1},
		{"one more that is further away has fewer places", " aa", "a  aa", 4, 2, 1},
		{"a repeated pattern", "abab", "  abab", 60, 2, 0},
		{"a repeated pattern, that may be shifted a little", "abab", "  abab", 1, 0, 4},
		{"the end beyond MaxCorrect is not cut off", x(60), "y" + x(59), 60, 0, 1},
		{"the end beyond MaxCorrect counts", x(60), " " + x(59), 60, 0, 1},
		{"the beginning in front of 0 counts", "yy" + x(58), x(58), 60, -2, 2},
		{"MaxCorrect places", "a", gap(59) + "a", 60, 59, 0},
		{"MaxCorrect places back", gap(59) + "a", "a", 60, -59, 0},
		{"one less than MaxCorrect places", gap(59) + "a", "a", 58, 0, 2},
		{"the longest lines, where a shift to an end is as good as none", "ab" + gap(56) + "xy", "xy" + gap(56) + "ab", 60, 0, 4},
		{"the longest line, whose end is wanted at the beginning", "ab" + gap(55) + "xyz", "xyz", 60, -57, 2},
		{"the longest line, whose beginning is wanted at the end", "xyz" + gap(55) + "ab", gap(57) + "xyz", 60, 57, 2},
	} {
		shift, many, code := impl.ShiftedMatch(c.typed, c.want, c.most)
		is(t, c.name, all(shift, many, code), c.shift, c.many, impl.OK)
	}
	for _, most := range []int64{-1, 61, 62, -60, -1 << 63, 1<<63 - 1, 1 << 32, 1<<32 + 1} {
		for _, pair := range [][2]string{{"", ""}, {"abc", " abc"}, {"abc", "abc"}, {x(60), x(60)}, {x(61), "a"}} {
			shift, many, code := impl.ShiftedMatch(pair[0], pair[1], most)
			is(t, fmt.Sprint("most ", most), all(shift, many, code), 0, 0, impl.ErrRange)
		}
	}
	for _, line := range noTypedLines() {
		for _, other := range []string{"", "a", line, x(60)} {
			for _, most := range []int64{0, 1, 60, 61, -1} {
				shift, many, code := impl.ShiftedMatch(line, other, most)
				is(t, fmt.Sprintf("typed %.60q", line), all(shift, many, code), 0, 0, impl.ErrRange)
				shift, many, code = impl.ShiftedMatch(other, line, most)
				is(t, fmt.Sprintf("want %.60q", line), all(shift, many, code), 0, 0, impl.ErrRange)
			}
		}
	}
}

func TestPlacesThatDiffer(t *testing.T) {
	for _, c := range []struct {
		name, typed, want string
		places            []int64
	}{
		{"no bytes", "", "", nil},
		{"equal lines", "abc", "abc", nil},
		{"a blank more behind a line", "abc", "abd ", []int64{2}},
		{"a shorter line", "abc", "a", []int64{1, 2}},
		{"a longer line", "a", "abc", []int64{1, 2}},
		{"no byte, and letters", "", "a c", []int64{0, 2}},
		{"a line, and no byte", " b", "", []int64{1}},
		{"blanks only", gap(60), "", nil},
		{"a blank in front of a line", "abc", " abc", []int64{0, 1, 2, 3}},
		{"all letters that may be", "!~", "~!", []int64{0, 1}},
		{"the first place", "abc", "xbc", []int64{0}},
		{"the last place", x(60), x(59) + "y", []int64{59}},
		{"the last place, where a line ends before it", x(60), x(59), []int64{59}},
		{"all places", x(60), gap(60), append([]int64{0}, upTo(59)...)},
		{"all places, and no byte", "", x(60), append([]int64{0}, upTo(59)...)},
	} {
		places, code := impl.WrongPlaces(c.typed, c.want)
		is(t, c.name, all(places, code), c.places, impl.OK)
	}
	for _, line := range noTypedLines() {
		for _, other := range []string{"", "a", line, x(60)} {
			places, code := impl.WrongPlaces(line, other)
			is(t, fmt.Sprintf("typed %.60q", line), all(places, code), []int64{}, impl.ErrRange)
			places, code = impl.WrongPlaces(other, line)
			is(t, fmt.Sprintf("want %.60q", line), all(places, code), []int64{}, impl.ErrRange)
		}
	}
}

func TestTextsOfOvers(t *testing.T) {
	for _, c := range []struct {
		x    impl.Over
		text string
	}{
		{over("c", "/", "0"), "c</=0"}, {over("!", "~", "a"), "!<~=a"}, {over("~", "!", "a"), "~<!=a"}, {over("a", "b", "~"), "a<b=~"},
		{over("<", "=", "a"), "<<==a"}, {over("=", "<", "a"), "=<<=a"}, {over("a", "<", "="), "a<<=="}, {over("a", "=", "<"), "a<==<"}, {over("=", "a", "<"), "=<a=<"},
	} {
		back, ok := impl.ReadOver(c.text)
		is(t, c.text, all(impl.OverText(c.x), back, ok), c.text, c.x, true)
	}
	for _, x := range wrongRules() {
		text := x.Under + "<" + x.Top + "=" + x.Seen
		back, ok := impl.ReadOver(text)
		is(t, fmt.Sprintf("no rule: %.60q", text), all(one(impl.OverText(x)), back, ok), one(""), impl.Over{}, false)
	}
	for _, s := range slices.Concat(oddTexts(), []string{"c</0", "c</=", "</=0", "c/=0", "c<=0", "c</=00", "cc</=0", "c<//=0", " c</=0", "c</=0 ", "c</=0\n", "c< =0", " </=0", "c</= ", "c</=c", "c<c=0", "c</=/", "c>/=0", "c</-0", "c=/<0", "c<</=0", "c</==0", "c/0", "é</=0", "c<é=0", "c</=é", "é<=0", "c</=0c</=0"}) {
		back, ok := impl.ReadOver(s)
		is(t, fmt.Sprintf("no text of a rule: %.60q", s), all(back, ok), impl.Over{}, false)
	}
}
