package tests

import (
	"math"
	"math/big"
	"math/rand"
	"regexp"
	"slices"
	"strings"
	"testing"

	"loop.example/g00980/impl"
)

// The limits are written as numbers here, so that a change of them does not change the tests.
const (
	mostWords    = 24
	longestLine  = 600
	sizeIfTooBig = 25
)

var fracPattern = regexp.MustCompile(`^-?[0-9]+(/[0-9]+)?$`)

// fracOf is written apart from the program: it works with exact numbers of any size.
func fracOf(text string) (impl.Frac, bool) {
	if !fracPattern.MatchString(text) {
		return impl.Frac{}, false
	}
	r, ok := new(big.Rat).SetString(text)
	if !ok || r.RatString() != text {
		return impl.Frac{}, false
	}
	return validOf(r)
}

// kindWords holds the word of each kind that has operands at its number.
func kindWords() []string { return []string{3: "+", "-", "*", "/", "min", "max", "pick"} }

func wantedWord(n impl.Node) string {
	switch n.Kind {
	case 1:
		return ratOf(n.Value).RatString()
	case 2:
		return "v" + string(rune('0'+n.A))
	}
	return kindWords()[n.Kind]
}

func operandCount(kind int) int { return []int{0, 0, 0, 2, 2, 2, 2, 2, 2, 3}[kind] }

func usedNodes(n impl.Node) []int { return []int{n.A, n.B, n.C}[:operandCount(n.Kind)] }

// timesInText is written apart from the program: it goes backwards from the last node and adds up
// how often each node stands in the text.
func timesInText(list []impl.Node) []int {
	times := make([]int, len(list))
	times[len(list)-1] = 1
	for i, n := range slices.Backward(list) {
		for _, operand := range usedNodes(n) {
			times[operand] += times[i]
		}
	}
	return times
}

func wantedSize(list []impl.Node) int { return min(sumOf(timesInText(list)), sizeIfTooBig) }

// wantedText is written apart from the program: it writes the texts of all nodes, from the first one
// to the last, without those that are too long.
func wantedText(list []impl.Node) string {
	var texts []string
	for i, n := range list {
		text := wantedWord(n)
		for _, operand := range usedNodes(n) {
			text += " " + texts[operand]
		}
		if wantedSize(list[:i+1]) > mostWords {
			text = ""
		}
		texts = append(texts, text)
	}
	return texts[len(texts)-1]
}

// onlyNeeded returns list with constants in place of the nodes that the last one does not need.
func onlyNeeded(list []impl.Node) []impl.Node {
	times := timesInText(list)
	needed := slices.Clone(list)
	for i := range needed {
		if times[i] == 0 {
			needed[i] = constNode(1, 1)
		}
	}
	return needed
}

// shifted returns the nodes as they are behind by other nodes.
func shifted(nodes []impl.Node, by int) []impl.Node {
	var list []impl.Node
	for _, n := range nodes {
		for field := range operandCount(n.Kind) {
			n = changedNode(n, field, usedNodes(n)[field]+by)
		}
		list = append(list, n)
	}
	return list
}

// formulaOf is written apart from the program: it takes the words from the last one to the first and
// puts the formulas that are complete on top of one another.
func formulaOf(text string) ([]impl.Node, bool) {
	isOutside := func(b byte) bool { return b < 32 || b > 126 }
	words := strings.FieldsFunc(text, func(r rune) bool { return r == ' ' })
	if len(text) > longestLine || len(words) > mostWords || slices.ContainsFunc([]byte(text), isOutside) {
		return nil, false
	}
	var stack [][]impl.Node
	for _, word := range slices.Backward(words) {
		n, ok := nodeOf(word)
		if !ok || operandCount(n.Kind) > len(stack) {
			return nil, false
		}
		var nodes []impl.Node
		for field := range operandCount(n.Kind) {
			nodes = append(nodes, shifted(stack[len(stack)-1], len(nodes))...)
			stack = stack[:len(stack)-1]
			n = changedNode(n, field, len(nodes)-1)
		}
		stack = append(stack, append(nodes, n))
	}
	if len(stack) != 1 {
		return nil, false
	}
	return stack[0], true
}

func nodeOf(word string) (impl.Node, bool) {
	if kind := slices.Index(kindWords(), word); kind >= 0 {
		return impl.Node{Kind: kind}, true
	}
	if number := slices.Index([]string{"v0", "v1", "v2", "v3", "v4", "v5", "v6", "v7"}, word); number >= 0 {
		return varNode(number), true
	}
	value, ok := fracOf(word)
	return impl.Node{Kind: impl.NdConst, Value: value}, ok
}

// checkText compares FormatFormula and FormulaSize with the wanted text and size.
func checkText(t *testing.T, name string, list []impl.Node, text string, size int) {
	t.Helper()
	if got := impl.FormatFormula(list); got != text {
		t.Errorf("%s: FormatFormula(%v) = %q, want %q", name, list, got, text)
	}
	if got := impl.FormulaSize(list); got != size {
		t.Errorf("%s: FormulaSize(%v) = %d, want %d", name, list, got, size)
	}
}

func checkNodes(t *testing.T, name string, text string, want []impl.Node, wantOk bool) {
	t.Helper()
	if list, ok := impl.ParseFormula(text); ok != wantOk || !slices.Equal(list, want) {
		t.Errorf("%s: ParseFormula(%q) = %v, %v, want %v, %v", name, text, list, ok, want, wantOk)
	}
}

// checkBackAndForth checks the promise for a valid formula: the one that is parsed from its text has
// the same text, size, variables and value, and its nodes are in postorder without shared ones.
func checkBackAndForth(t *testing.T, list []impl.Node, vars []impl.Frac) {
	t.Helper()
	text := impl.FormatFormula(list)
	if text == "" {
		return
	}
	parsed, ok := impl.ParseFormula(text)
	if !ok || !impl.FormulaOk(parsed) {
		t.Errorf("ParseFormula(%q) = %v, %v, the text of %v", text, parsed, ok, list)
		return
	}
	checkText(t, "parsed again", parsed, text, impl.FormulaSize(list))
	again, _ := impl.ParseFormula(impl.FormatFormula(parsed))
	if !slices.Equal(again, parsed) {
		t.Errorf("the text of %v is parsed as %v", parsed, again)
	}
	if got, want := impl.VarsOf(parsed), impl.VarsOf(list); !slices.Equal(got, want) {
		t.Errorf("%v has the variables %v, but %v has %v", parsed, got, list, want)
	}
	got, gotOk := impl.Eval(parsed, vars)
	want, wantOk := impl.Eval(onlyNeeded(list), vars)
	if got != want || gotOk != wantOk {
		t.Errorf("%v has the value %v, %v, but %v has %v, %v", parsed, got, gotOk, list, want, wantOk)
	}
	if whole, wholeOk := impl.Eval(list, vars); wholeOk && (!gotOk || whole != got) {
		t.Errorf("%v has the value %v, %v, but %v has %v", parsed, got, gotOk, list, whole)
	}
	checkPostorder(t, parsed)
}

func checkPostorder(t *testing.T, list []impl.Node) {
	t.Helper()
	for i, times := range timesInText(list) {
		if times != 1 {
			t.Errorf("%v uses the node %d %d times", list, i, times)
		}
	}
	for i, n := range list {
		operands := usedNodes(n)
		if len(operands) > 0 && operands[len(operands)-1] != i-1 || !slices.IsSorted(operands) {
			t.Errorf("%v has the node %d not right behind its operands in order", list, i)
		}
	}
}

func TestFormatFrac(t *testing.T) {
	for _, c := range []struct {
		a    impl.Frac
		want string
	}{
		{frac(0, 1), "0"}, {frac(1, 1), "1"}, {frac(-1, 1), "-1"}, {frac(12, 1), "12"}, {frac(-700, 1), "-700"},
		{frac(1, 2), "1/2"}, {frac(-7, 3), "-7/3"}, {frac(3, 10), "3/10"}, {frac(-10, 3), "-10/3"}, {frac(100, 9), "100/9"},
		{frac(impl.MaxNum, 1), "1000000000000"}, {frac(-impl.MaxNum, 1), "-1000000000000"},
		{frac(impl.MaxNum, 999999), "1000000000000/999999"}, {frac(-impl.MaxNum, 999999), "-1000000000000/999999"},
		{frac(1, impl.MaxDen), "1/1000000"}, {frac(-1, impl.MaxDen), "-1/1000000"},
		{frac(impl.MaxNum-1, impl.MaxDen), "999999999999/1000000"}, {frac(1-impl.MaxNum, impl.MaxDen), "-999999999999/1000000"},
	} {
		if got := impl.FormatFrac(c.a); got != c.want {
			t.Errorf("FormatFrac(%v) = %q, want %q", c.a, got, c.want)
		}
	}
	for _, a := range validFracs() {
		if got, want := impl.FormatFrac(a), ratOf(a).RatString(); got != want {
			t.Errorf("FormatFrac(%v) = %q, want %q", a, got, want)
		}
	}
	for _, a := range invalidFracs() {
		if got := impl.FormatFrac(a); got != "" {
			t.Errorf("FormatFrac(%v) = %q, want none", a, got)
		}
	}
}

func TestParseFrac(t *testing.T) {
	for _, c := range []struct {
		text string
		want impl.Frac
	}{
		{"0", frac(0, 1)}, {"1", frac(1, 1)}, {"-1", frac(-1, 1)}, {"10", frac(10, 1)}, {"-305", frac(-305, 1)},
		{"1/2", frac(1, 2)}, {"-7/3", frac(-7, 3)}, {"10/3", frac(10, 3)}, {"3/10", frac(3, 10)},
		{"1000000000", frac(1000000000, 1)}, {"1000000001", frac(1000000001, 1)}, {"-1000000001", frac(-1000000001, 1)},
		{"1000000000000", frac(impl.MaxNum, 1)}, {"-1000000000000", frac(-impl.MaxNum, 1)},
		{"1000000000000/999999", frac(impl.MaxNum, 999999)}, {"-999999999999/1000000", frac(1-impl.MaxNum, impl.MaxDen)},
		{"1/1000000", frac(1, impl.MaxDen)}, {"-1/1000000", frac(-1, impl.MaxDen)},
	} {
		if got, ok := impl.ParseFrac(c.text); got != c.want || !ok {
			t.Errorf("ParseFrac(%q) = %v, %v, want %v, true", c.text, got, ok, c.want)
		}
	}
	for _, a := range validFracs() {
		text := impl.FormatFrac(a)
		if got, ok := impl.ParseFrac(text); got != a || !ok {
			t.Errorf("ParseFrac(%q) = %v, %v, want %v, true", text, got, ok, a)
		}
	}
}

func noFracTexts() []string {
	list := []string{
		"", " ", "/", "//", "-", "+", "-/", "--1", "-+1", "+-1", "1-", "1+", "-0", "+0", "-0/1", "0/1", "0/2", "-0/5", "00", "000", "-00",
		"01", "007", "-01", "-007", "01/2", "-01/2", "1/02", "1/002", "-1/02", "+1", "+7/3", "1/+2", "+1/+2", "-7/+3",
		"1/1", "5/1", "-5/1", "1000000000000/1", "1/0", "0/0", "-1/0", "1/00", "1/-0", "1/-2", "-1/-2", "0/-1", "1/-1", "7/-3",
		"2/4", "-6/9", "2/2", "10/5", "1000000/1000000", "1000000000000/2", "-1000000000000/5",
		"1000000000001", "-1000000000001", "10000000000000", "1000000000001/2", "1/1000001", "-1/1000001", "1/10000000", "1/1000000000000",
		"9223372036854775807", "-9223372036854775808", "9223372036854775808", "-9223372036854775809", "1/9223372036854775807", "1/9223372036854775808",
		"18446744073709551617", "1/18446744073709551618", "18446744073709551616", strings.Repeat("9", 5000), "1/" + strings.Repeat("9", 5000), strings.Repeat("0", 5000) + "1",
		" 1", "1 ", " 1/2", "1/2 ", "1 /2", "1/ 2", "1 / 2", "1 2", "- 1", "\t1", "1\n", "1\x00", "\x001", "1/2\n",
		"1//2", "/1/2", "1/2/", "1/2/3", "6/2/3", "/2", "/1", "1/", "-1/", "0/", "-/2", "/-2",
		"1.5", "1.0", "1.", ".5", "1,5", "1e3", "1E3", "0x10", "0X1F", "0b11", "0o17", "0_1", "1_000", "1'000", "1/1_000", "½", "１", "٣", "1/٣", "−1", "inf", "NaN", "v1", "a", "1a", "a1", "1/a", "a/2",
	}
	for _, a := range invalidFracs() {
		list = append(list, impl.FormatInt(a.Num)+"/"+impl.FormatInt(a.Den))
	}
	return list
}

func TestParseFracInvalid(t *testing.T) {
	for _, text := range noFracTexts() {
		if got, ok := impl.ParseFrac(text); got != (impl.Frac{}) || ok {
			t.Errorf("ParseFrac(%q) = %v, %v, want none, false", text, got, ok)
		}
		if _, ok := fracOf(text); ok {
			t.Errorf("%q is a fraction", text)
		}
	}
}

func checkFracText(t *testing.T, text string) {
	t.Helper()
	want, wantOk := fracOf(text)
	if got, ok := impl.ParseFrac(text); got != want || ok != wantOk {
		t.Errorf("ParseFrac(%q) = %v, %v, want %v, %v", text, got, ok, want, wantOk)
	}
}

// TestParseFracEverySmallText tries all texts of a few characters, and all numbers around the ends of
// their ranges.
func TestParseFracEverySmallText(t *testing.T) {
	texts := []string{""}
	for range 5 {
		var longer []string
		for _, text := range texts {
			checkFracText(t, text)
			for _, c := range "-0124/+ " {
				longer = append(longer, text+string(c))
			}
		}
		texts = longer
	}
	numbers := []int{math.MinInt, math.MaxInt}
	for _, n := range []int{0, impl.MaxDen, impl.MaxNum, -impl.MaxNum, impl.MaxUint} {
		for by := -12; by <= 12; by++ {
			numbers = append(numbers, n+by)
		}
	}
	for _, num := range numbers {
		checkFracText(t, impl.FormatInt(num))
		for _, den := range numbers {
			checkFracText(t, impl.FormatInt(num)+"/"+impl.FormatInt(den))
		}
	}
}

// changedTexts holds every text that differs from text in one byte, or by one more or one less.
func changedTexts(text string) []string {
	var list []string
	for i := range len(text) + 1 {
		for b := range 256 {
			list = append(list, text[:i]+string([]byte{byte(b)})+text[i:])
			if i < len(text) {
				list = append(list, text[:i]+string([]byte{byte(b)})+text[i+1:])
			}
		}
		if i < len(text) {
			list = append(list, text[:i]+text[i+1:])
		}
	}
	return list
}

func TestParseFracEveryChange(t *testing.T) {
	for _, text := range []string{"0", "7", "-12", "9/20", "-35/6", "1000000000000", "-999999999999/1000000"} {
		for _, changed := range changedTexts(text) {
			checkFracText(t, changed)
		}
	}
}

// doubling holds a variable and nodes that each add the one before them to itself, so that the node
// with the index n has 2^(n+1)-1 words.
func doubling(count int, number int) []impl.Node {
	return append(formula(varNode(number)), growing(count)[1:]...)
}

// chained holds the nodes of first and nodes that each add the node 0 to the one before them.
func chained(first []impl.Node, count int) []impl.Node {
	list := slices.Clone(first)
	for range count {
		list = append(list, opNode(impl.NdAdd, len(list)-1, 0))
	}
	return list
}

// picking holds a variable and nodes that each pick the one before them in all three places.
func picking(count int) []impl.Node {
	list := formula(varNode(1))
	for i := 1; i < count; i++ {
		list = append(list, pickNode(i-1, i-1, i-1))
	}
	return list
}

func TestFormatFormula(t *testing.T) {
	half := constNode(1, 2)
	for _, c := range []struct {
		name string
		list []impl.Node
		text string
		size int
	}{
		{"the example of the stage", formula(varNode(1), half, opNode(impl.NdMul, 0, 1), varNode(3), pickNode(3, 2, 0)), "pick v3 * v1 1/2 v1", 6},
		{"a constant", formula(half), "1/2", 1},
		{"the constant 0", formula(constNode(0, 1)), "0", 1},
		{"a negative constant", formula(constNode(-7, 3)), "-7/3", 1},
		{"the first variable", formula(varNode(0)), "v0", 1},
		{"the last variable", formula(varNode(7)), "v7", 1},
		{"a sum", formula(varNode(1), half, opNode(impl.NdAdd, 0, 1)), "+ v1 1/2", 3},
		{"a difference", formula(varNode(1), half, opNode(impl.NdSub, 0, 1)), "- v1 1/2", 3},
		{"a product", formula(varNode(1), half, opNode(impl.NdMul, 0, 1)), "* v1 1/2", 3},
		{"a quotient", formula(varNode(1), half, opNode(impl.NdDiv, 0, 1)), "/ v1 1/2", 3},
		{"the smaller one", formula(varNode(1), half, opNode(impl.NdMin, 0, 1)), "min v1 1/2", 3},
		{"the greater one", formula(varNode(1), half, opNode(impl.NdMax, 0, 1)), "max v1 1/2", 3},
		{"a pick", formula(varNode(1), half, varNode(2), pickNode(0, 1, 2)), "pick v1 1/2 v2", 4},
		{"a pick in another order", formula(varNode(1), half, varNode(2), pickNode(2, 0, 1)), "pick v2 v1 1/2", 4},
		{"operands in another order", formula(varNode(1), half, opNode(impl.NdSub, 1, 0)), "- 1/2 v1", 3},
		{"a negative constant behind a minus", formula(constNode(-1, 1), constNode(-2, 5), opNode(impl.NdSub, 0, 1)), "- -1 -2/5", 3},
		{"a fraction behind a division", formula(constNode(3, 4), varNode(2), opNode(impl.NdDiv, 0, 1)), "/ 3/4 v2", 3},
		{"a node that one node uses twice", formula(varNode(2), opNode(impl.NdMul, 0, 0)), "* v2 v2", 3},
		{"a node that one node uses three times", formula(varNode(2), pickNode(0, 0, 0)), "pick v2 v2 v2", 4},
		{"an operation that one node uses twice", formula(varNode(2), half, opNode(impl.NdSub, 0, 1), opNode(impl.NdMul, 2, 2)), "* - v2 1/2 - v2 1/2", 7},
		{"an operation that one node uses three times", formula(varNode(2), half, opNode(impl.NdSub, 0, 1), pickNode(2, 2, 2)), "pick - v2 1/2 - v2 1/2 - v2 1/2", 10},
		{"an operation twice, not side by side", formula(varNode(2), half, opNode(impl.NdSub, 0, 1), pickNode(2, 0, 2)), "pick - v2 1/2 v2 - v2 1/2", 8},
		{"a node that several nodes share", formula(varNode(4), varNode(5), opNode(impl.NdAdd, 0, 1), opNode(impl.NdMin, 2, 0), opNode(impl.NdMax, 2, 1), opNode(impl.NdDiv, 3, 4)),
			"/ min + v4 v5 v4 max + v4 v5 v5", 11},
		{"shared nodes of shared nodes", formula(varNode(6), opNode(impl.NdAdd, 0, 0), opNode(impl.NdSub, 1, 1), opNode(impl.NdMul, 2, 1)), "* - + v6 v6 + v6 v6 + v6 v6", 11},
		{"a node that is not needed at the start", formula(half, varNode(3)), "v3", 1},
		{"nodes that are not needed between others", formula(varNode(3), half, opNode(impl.NdAdd, 0, 1), constNode(5, 1), opNode(impl.NdDiv, 0, 3)), "/ v3 5", 3},
		{"an operation that is not needed", formula(varNode(3), half, opNode(impl.NdAdd, 0, 1), opNode(impl.NdMul, 2, 2), varNode(0)), "v0", 1},
		{"a pick that is not needed", formula(varNode(3), pickNode(0, 0, 0), opNode(impl.NdMax, 0, 0)), "max v3 v3", 3},
		{"far too many words that are not needed", append(doubling(mostNodes-2, 1), constNode(4, 1), opNode(impl.NdAdd, 0, mostNodes-2)), "+ v1 4", 3},
		{"nodes that are not needed without a value", formula(constNode(0, 1), opNode(impl.NdDiv, 0, 0), varNode(1)), "v1", 1},
		{"a formula without a value", formula(constNode(0, 1), opNode(impl.NdDiv, 0, 0)), "/ 0 0", 3},
		{"the same constants and variables in several nodes", formula(half, half, varNode(1), varNode(1), opNode(impl.NdAdd, 0, 2), opNode(impl.NdAdd, 1, 3), opNode(impl.NdSub, 4, 5)), "- + 1/2 v1 + 1/2 v1", 7},
		{"a variable with the number of a node", formula(half, varNode(0), opNode(impl.NdAdd, 0, 0), varNode(2), opNode(impl.NdAdd, 1, 3)), "+ v0 v2", 3},
		{"MaxNodes nodes", behind(opNode(impl.NdSub, 28, 0), mostNodes-1), "- 1 1", 3},
	} {
		checkText(t, c.name, c.list, c.text, c.size)
		checkBackAndForth(t, c.list, evalVars())
	}
}

func TestFormatFormulaConstants(t *testing.T) {
	for _, a := range validFracs() {
		list := formula(impl.Node{Kind: impl.NdConst, Value: a})
		checkText(t, "a constant", list, ratOf(a).RatString(), 1)
		checkNodes(t, "a constant", ratOf(a).RatString(), list, true)
	}
}

// TestFormulaSizeLimits counts the words of formulas around the limit and far above it, in which
// shared nodes stand several times.
func TestFormulaSizeLimits(t *testing.T) {
	pick := formula(varNode(1), pickNode(0, 0, 0))
	four := doubling(4, 1)
	for _, c := range []struct {
		name string
		list []impl.Node
		text string
		size int
	}{
		{"22 words", chained(pick, 9), strings.Repeat("+ ", 9) + "pick v1 v1 v1" + strings.Repeat(" v1", 9), 22},
		{"23 words", chained(pick[:1], 11), strings.Repeat("+ ", 11) + "v1" + strings.Repeat(" v1", 11), 23},
		{"24 words", chained(pick, 10), strings.Repeat("+ ", 10) + "pick v1 v1 v1" + strings.Repeat(" v1", 10), 24},
		{"25 words", chained(pick[:1], 12), "", 25},
		{"26 words", chained(pick, 11), "", 25},
		{"27 words", chained(pick[:1], 13), "", 25},
		{"15 words of 4 nodes", four, "+ + + v1 v1 + v1 v1 + + v1 v1 + v1 v1", 15},
		{"31 words of 5 nodes", doubling(5, 1), "", 25},
		{"13 words of 3 nodes", picking(3), "pick pick v1 v1 v1 pick v1 v1 v1 pick v1 v1 v1", 13},
		{"40 words of 4 nodes", picking(4), "", 25},
		{"24 words, most of them in A", append(four, pickNode(3, 2, 0)), "pick " + impl.FormatFormula(four) + " " + impl.FormatFormula(four[:3]) + " v1", 24},
		{"24 words, most of them in B", append(four, pickNode(0, 3, 2)), "pick v1 " + impl.FormatFormula(four) + " " + impl.FormatFormula(four[:3]), 24},
		{"24 words, most of them in C", append(four, pickNode(2, 0, 3)), "pick " + impl.FormatFormula(four[:3]) + " v1 " + impl.FormatFormula(four), 24},
		{"25 words, most of them in A", append(four, opNode(impl.NdMin, 2, 0), opNode(impl.NdMax, 3, 4)), "", 25},
		{"25 words, most of them in B", append(four, opNode(impl.NdMin, 2, 0), opNode(impl.NdMax, 4, 3)), "", 25},
		{"26 words, most of them in C", append(four, pickNode(1, 2, 3)), "", 25},
		{"one more behind 24 words", append(chained(pick, 10), opNode(impl.NdSub, 11, 0)), "", 25},
		{"one more before 24 words", append(chained(pick, 10), opNode(impl.NdSub, 0, 11)), "", 25},
		{"far more, doubled", doubling(mostNodes, 1), "", 25},
		{"far more, trebled", picking(mostNodes), "", 25},
		{"far more behind a variable", append(picking(mostNodes-1), opNode(impl.NdAdd, 0, mostNodes-2)), "", 25},
		{"far more before a variable", append(picking(mostNodes-1), opNode(impl.NdAdd, mostNodes-2, 0)), "", 25},
		{"far more in the last place of a pick", append(picking(mostNodes-1), pickNode(0, 0, mostNodes-2)), "", 25},
		{"far more that is not needed", append(picking(mostNodes-1), opNode(impl.NdAdd, 2, 0)), "+ " + impl.FormatFormula(picking(3)) + " v1", 15},
		{"25 words behind ones with as many that are not needed", append(chained(pick[:1], 13), opNode(impl.NdAdd, 11, 0)), "", 25},
		{"24 words behind ones with more that are not needed", append(chained(pick, 12), opNode(impl.NdSub, 10, 0)), "- " + impl.FormatFormula(chained(pick, 9)) + " v1", 24},
		{"one node too many", doubling(mostNodes+1, 1), "", 0},
	} {
		checkText(t, c.name, c.list, c.text, c.size)
	}
	// the longest text: 24 words, 13 of which are constants of 21 bytes
	long := formula(impl.Node{Kind: impl.NdConst, Value: frac(-impl.MaxNum, 999999)}, pickNode(0, 0, 0))
	word := "-1000000000000/999999"
	checkText(t, "the longest words", chained(long, 10), strings.Repeat("+ ", 10)+"pick "+strings.Join(slices.Repeat([]string{word}, 13), " "), 24)
	checkBackAndForth(t, chained(long, 10), evalVars())
}

func TestFormatFormulaInvalid(t *testing.T) {
	for _, list := range invalidFormulas() {
		checkText(t, "an invalid formula", list, "", 0)
	}
}

func TestFormatFormulaValid(t *testing.T) {
	for _, list := range validFormulas() {
		checkText(t, "a valid formula", list, wantedText(list), wantedSize(list))
		checkBackAndForth(t, list, evalVars())
	}
}

func TestParseFormula(t *testing.T) {
	one, two, three := varNode(1), varNode(2), varNode(3)
	for _, c := range []struct {
		text string
		want []impl.Node
	}{
		{"v1", formula(one)},
		{"-7/3", formula(constNode(-7, 3))},
		{"0", formula(constNode(0, 1))},
		{"+ v1 v2", formula(one, two, opNode(impl.NdAdd, 0, 1))},
		{"- v1 v2", formula(one, two, opNode(impl.NdSub, 0, 1))},
		{"* v1 v2", formula(one, two, opNode(impl.NdMul, 0, 1))},
		{"/ v1 v2", formula(one, two, opNode(impl.NdDiv, 0, 1))},
		{"min v1 v2", formula(one, two, opNode(impl.NdMin, 0, 1))},
		{"max v1 v2", formula(one, two, opNode(impl.NdMax, 0, 1))},
		{"pick v1 v2 v3", formula(one, two, three, pickNode(0, 1, 2))},
		{"- v2 v1", formula(two, one, opNode(impl.NdSub, 0, 1))},
		{"- -1 -2", formula(constNode(-1, 1), constNode(-2, 1), opNode(impl.NdSub, 0, 1))},
		{"/ 1/2 3/4", formula(constNode(1, 2), constNode(3, 4), opNode(impl.NdDiv, 0, 1))},
		{"+ v1 * 1/2 v3", formula(one, constNode(1, 2), three, opNode(impl.NdMul, 1, 2), opNode(impl.NdAdd, 0, 3))},
		{"+ * v1 v2 v3", formula(one, two, opNode(impl.NdMul, 0, 1), three, opNode(impl.NdAdd, 2, 3))},
		// no node is shared
		{"+ v1 v1", formula(one, one, opNode(impl.NdAdd, 0, 1))},
		{"pick 5 5 5", formula(constNode(5, 1), constNode(5, 1), constNode(5, 1), pickNode(0, 1, 2))},
		{"* - v2 1 - v2 1", formula(two, constNode(1, 1), opNode(impl.NdSub, 0, 1), two, constNode(1, 1), opNode(impl.NdSub, 3, 4), opNode(impl.NdMul, 2, 5))},
		{"pick v3 * v1 1/2 v1", formula(three, one, constNode(1, 2), opNode(impl.NdMul, 1, 2), one, pickNode(0, 3, 4))},
		{"pick + v1 v2 v3 - v3 v1", formula(one, two, opNode(impl.NdAdd, 0, 1), three, three, one, opNode(impl.NdSub, 4, 5), pickNode(2, 3, 6))},
		{"pick pick v1 v2 v3 pick v2 v3 v1 pick v3 v1 v2", formula(one, two, three, pickNode(0, 1, 2), two, three, one, pickNode(4, 5, 6), three, one, two, pickNode(8, 9, 10), pickNode(3, 7, 11))},
		{"min max + v1 v2 v3 / v1 v2", formula(one, two, opNode(impl.NdAdd, 0, 1), three, opNode(impl.NdMax, 2, 3), one, two, opNode(impl.NdDiv, 5, 6), opNode(impl.NdMin, 4, 7))},
		{"/ 0 0", formula(constNode(0, 1), constNode(0, 1), opNode(impl.NdDiv, 0, 1))},
		// words are separated as by SplitFields
		{" v1", formula(one)},
		{"v1 ", formula(one)},
		{"   v1   ", formula(one)},
		{"+  v1   v2", formula(one, two, opNode(impl.NdAdd, 0, 1))},
		{"  +     v1 v2  ", formula(one, two, opNode(impl.NdAdd, 0, 1))},
	} {
		checkNodes(t, "a formula", c.text, c.want, true)
		if words := strings.Join(strings.Fields(c.text), " "); impl.FormatFormula(c.want) != words {
			t.Errorf("FormatFormula(%v) = %q, want %q", c.want, impl.FormatFormula(c.want), words)
		}
	}
}

func TestParseFormulaInvalid(t *testing.T) {
	for _, c := range []struct {
		name  string
		texts []string
	}{
		{"no words", []string{"", " ", "      ", strings.Repeat(" ", longestLine)}},
		{"a word too few", []string{"+", "-", "*", "/", "min", "max", "pick", "+ v1", "- 1", "* 1/2", "/ v2", "min v1", "max v1", "pick v1", "pick v1 v2",
			"+ v1 * v2", "+ * v1 v2", "+ + v1 v2", "pick + v1 v2 v3", "pick v1 v2 + v3", "+ + +", "pick pick v1 v2 v3", "- -", "/ /"}},
		{"a word too many", []string{"v1 v2", "1 2", "v1 v1", "+ v1 v2 v3", "- 1 2 3", "* v1 v2 v3", "/ v1 v2 v3", "min v1 v2 v3", "max v1 v2 v3", "pick v1 v2 v3 v4",
			"+ v1 v2 +", "v1 +", "1 -", "v1 + v2", "v1 v2 +", "v1 min v2", "+ * v1 v2 v3 v4", "pick + v1 v2 v3 v4 v5", "v1 pick v1 v2 v3", "+ v1 v2 + v1 v2"}},
		{"no variables", []string{"v", "v8", "v9", "v10", "v00", "v01", "v07", "v-1", "v+1", "v1.0", "v 1", "V1", "V0", "vv1", "1v", "v1v", "v1v2", "v1/2", "-v1", "+v1", "v_1", "vx", "v1,", "(v1)", "v1000000001", "v4294967296", "v18446744073709551616", "v18446744073709551617", "v/1", "x1", "x", "w1"}},
		{"no words of the notation", []string{"+v1 v2", "+ v1v2", "+v1v2", "MIN v1 v2", "Min v1 v2", "mIN v1 v2", "MAX v1 v2", "Max v1 v2", "PICK v1 v2 v3", "Pick v1 v2 v3", "mini v1 v2", "mi v1 v2", "pic v1 v2 v3", "picks v1 v2 v3",
			"add v1 v2", "sub v1 v2", "mul v1 v2", "div v1 v2", "++ v1 v2", "+- v1 v2", "-- v1 v2", "** v1 v2", "// v1 v2", "% v1 v2", "^ v1 v2", "if v1 v2 v3", "( + v1 v2 )", "(+ v1 v2)", "+ v1, v2", "3 v1 v2", "neg v1", "const 1", "\"+\" v1 v2", "\\+ v1 v2"}},
		{"a minus or a bar of their own", []string{"- 1", "1 / 2", "/ 1", "- 1 / 2", "1/ 2", "1 /2", "- - 1"}},
	} {
		for _, text := range c.texts {
			checkNodes(t, c.name, text, nil, false)
			if _, ok := formulaOf(text); ok {
				t.Errorf("%q is a formula", text)
			}
		}
	}
	for _, text := range noFracTexts() {
		if words := strings.Fields(text); len(words) == 1 && words[0] == text && !slices.Contains([]string{"+", "-", "/", "v1"}, text) {
			checkNodes(t, "no fraction", text, nil, false)
			checkNodes(t, "no fraction as the first operand", "+ "+text+" 1", nil, false)
			checkNodes(t, "no fraction as the second operand", "+ 1 "+text, nil, false)
			checkNodes(t, "no fraction as the last operand", "pick 1 1 "+text, nil, false)
		}
	}
}

// TestParseFormulaEveryVariable tries the numbers 0 to 120, with and without leading zeros.
func TestParseFormulaEveryVariable(t *testing.T) {
	for number := range 121 {
		digits := impl.FormatInt(number)
		var want []impl.Node
		if number < mostVars {
			want = formula(varNode(number))
		}
		checkNodes(t, "a variable", "v"+digits, want, number < mostVars)
		checkNodes(t, "a leading zero", "v0"+digits, nil, false)
		checkNodes(t, "a negative number", "v-"+digits, nil, false)
		checkNodes(t, "a plus sign", "v+"+digits, nil, false)
	}
}

func TestParseFormulaEveryChange(t *testing.T) {
	for _, text := range []string{"v7", "+ v0 -12", "min 3/20 v1", "max v1 v2", "pick v3 * v1 1/2 v1", "  - / 1 2 9  "} {
		for _, changed := range changedTexts(text) {
			want, wantOk := formulaOf(changed)
			checkNodes(t, "a changed text", changed, want, wantOk)
		}
	}
}

// TestParseFormulaEveryWordOrder tries all texts of up to six of some words.
func TestParseFormulaEveryWordOrder(t *testing.T) {
	texts := []string{""}
	complete := 0
	for range 7 {
		var longer []string
		for _, text := range texts {
			want, wantOk := formulaOf(text)
			checkNodes(t, "some words", text, want, wantOk)
			if wantOk {
				complete++
				checkBackAndForth(t, want, evalVars())
			}
			for _, word := range []string{"-", "max", "pick", "v1", "-1/2"} {
				longer = append(longer, strings.TrimSpace(text+" "+word))
			}
		}
		texts = longer
	}
	// with 1, 3, 4, 5 and 6 words
	if want := 2 + 8 + 8 + 64 + 160; complete != want {
		t.Errorf("%d formulas are complete, want %d", complete, want)
	}
}

func TestParseFormulaLineLimits(t *testing.T) {
	// 3 words for each sign, and a pick, which makes an even number of words possible
	sums := func(count int, last string) string {
		return strings.Repeat("+ ", count) + last + strings.Repeat(" v2", count)
	}
	for _, c := range []struct {
		name string
		text string
		ok   bool
	}{
		{"22 words", sums(9, "pick 1 2 3"), true},
		{"23 words", sums(11, "v1"), true},
		{"24 words", sums(10, "pick 1 2 3"), true},
		{"24 words with many picks", strings.Repeat("pick ", 7) + "- " + strings.TrimSpace(strings.Repeat("v1 ", 16)), true},
		{"25 words", sums(12, "v1"), false},
		{"25 words with many picks", strings.Repeat("pick ", 8) + strings.TrimSpace(strings.Repeat("v1 ", 17)), false},
		{"26 words", sums(11, "pick 1 2 3"), false},
		{"24 words that are one too few", sums(10, "pick 1 2 3")[2:] + " +", false},
		{"24 words that are one too many", sums(11, "v1") + " v1", false},
		{"24 signs", strings.TrimSpace(strings.Repeat("+ ", 24)), false},
		{"24 variables", strings.TrimSpace(strings.Repeat("v1 ", 24)), false},
		{"29 words, as many as nodes are allowed", sums(14, "v1"), false},
		{"600 bytes with blanks in front", strings.Repeat(" ", longestLine-2) + "v1", true},
		{"600 bytes with blanks behind", "v1" + strings.Repeat(" ", longestLine-2), true},
		{"600 bytes with blanks between", "+ v1" + strings.Repeat(" ", longestLine-6) + "v2", true},
		{"601 bytes with blanks in front", strings.Repeat(" ", longestLine-1) + "v1", false},
		{"601 bytes with blanks behind", "v1" + strings.Repeat(" ", longestLine-1), false},
		{"601 bytes with blanks between", "+ v1" + strings.Repeat(" ", longestLine-5) + "v2", false},
		{"many bytes", strings.Repeat(" ", impl.MaxInputLen) + "v1", false},
		{"24 words with blanks around", "  " + strings.ReplaceAll(sums(10, "pick 1 2 3"), " ", "   ") + "  ", true},
	} {
		want, wantOk := formulaOf(c.text)
		if wantOk != c.ok {
			t.Errorf("%s: %q is a formula: %v", c.name, c.text, wantOk)
		}
		checkNodes(t, c.name, c.text, want, c.ok)
	}
}

// TestParseFormulaBytes puts every byte that SplitFields rejects into all places of a formula.
func TestParseFormulaBytes(t *testing.T) {
	const text = " + v1  2 "
	checkNodes(t, "without another byte", text, formula(varNode(1), constNode(2, 1), opNode(impl.NdAdd, 0, 1)), true)
	for b := range 256 {
		if 32 <= b && b <= 126 {
			continue
		}
		for i := range len(text) + 1 {
			checkNodes(t, "another byte", text[:i]+string([]byte{byte(b)})+text[i:], nil, false)
		}
	}
	for _, other := range []string{"+\tv1\t2", "+ v1\n2", "+ v1 2\n", "+ v1 2\r\n", "+\u00a0v1 2", "\ufeff+ v1 2", "+ v1 2\x00", "× v1 2", "+ v¹ 2", "+ v1 ½"} {
		checkNodes(t, "other characters", other, nil, false)
	}
}

func TestRandomFormulasAsText(t *testing.T) {
	random := rand.New(rand.NewSource(9))
	short, shared := 0, 0
	const rounds = 6000
	for round := range rounds {
		count := 1 + random.Intn(12)
		if round%4 == 0 {
			count = 1 + random.Intn(mostNodes)
		}
		list := randomFormula(random, count)
		text := wantedText(list)
		checkText(t, "a random formula", list, text, wantedSize(list))
		checkBackAndForth(t, list, randomVars(random))
		if text != "" {
			short++
			want, wantOk := formulaOf(text)
			checkNodes(t, "a random formula", text, want, wantOk)
			if slices.Max(timesInText(list)) > 1 {
				shared++
			}
		}
	}
	if short < rounds/3 || short == rounds || shared < rounds/10 {
		t.Errorf("of %d random formulas, %d have a text, and %d of them share nodes", rounds, short, shared)
	}
}

func TestRandomFormulasChangedAsText(t *testing.T) {
	random := rand.New(rand.NewSource(99))
	for range 4000 {
		list := changedFormula(random)
		text, size := "", 0
		if formulaValid(list) {
			text, size = wantedText(list), wantedSize(list)
		}
		checkText(t, "a changed formula", list, text, size)
	}
}

// TestRandomTexts takes the texts of random formulas and changes one to three of their words.
func TestRandomTexts(t *testing.T) {
	random := rand.New(rand.NewSource(999))
	vocabulary := []string{"+", "-", "*", "/", "min", "max", "pick", "v0", "v7", "v8", "v", "v01", "0", "-0", "1/2", "2/4", "-7/3", "5/1", "Max", "1000000000000", "1000000000001", " "}
	complete := 0
	const rounds = 8000
	for range rounds {
		words := strings.Fields(wantedText(randomFormula(random, 1+random.Intn(8))))
		for range 1 + random.Intn(3) {
			at := random.Intn(len(words) + 1)
			word := vocabulary[random.Intn(len(vocabulary))]
			switch change := random.Intn(4); {
			case change == 0 || at == len(words):
				words = slices.Insert(words, at, word)
			case change == 1:
				words = slices.Delete(words, at, at+1)
			case change == 2:
				words[at] = word
			default:
				other := random.Intn(len(words))
				words[at], words[other] = words[other], words[at]
			}
		}
		text := strings.Join(words, " ")
		want, wantOk := formulaOf(text)
		checkNodes(t, "a random text", text, want, wantOk)
		if wantOk {
			complete++
			checkText(t, "a random text", want, strings.Join(strings.Fields(text), " "), len(strings.Fields(text)))
		}
	}
	if complete < rounds/20 || complete > rounds*9/10 {
		t.Errorf("%d of %d random texts are formulas", complete, rounds)
	}
}

func TestFormtextSharesNoMemory(t *testing.T) {
	mark := impl.Node{Kind: -1, A: -2, B: -3, C: -4, Value: frac(-5, -6)}
	for _, list := range slices.Concat(validFormulas(), invalidFormulas(), [][]impl.Node{picking(3), picking(mostNodes)}) {
		given := withRoom(list, mark)
		text := impl.FormatFormula(given)
		size := impl.FormulaSize(given)
		if !isWithRoom(given, list, mark) {
			t.Errorf("FormatFormula or FormulaSize changes its argument %v", list)
		}
		one, oneOk := impl.ParseFormula(text)
		other, otherOk := impl.ParseFormula(text)
		nodes := slices.Clone(one)
		overwriteAll(one, mark)
		overwriteAll(given, mark)
		if oneOk != otherOk || !slices.Equal(other, nodes) {
			t.Errorf("the results for %q share memory", text)
		}
		checkText(t, "another call", list, text, size)
		checkNodes(t, "another call", text, nodes, oneOk)
	}
}
