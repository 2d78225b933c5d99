package tests

import (
	"math"
	"math/big"
	"math/rand"
	"slices"
	"testing"

	"loop.example/g00980/impl"
)

// The limits are written as numbers here, so that a change of them does not change the tests.
const (
	mostNodes = 30
	mostVars  = 8
)

func constNode(num int, den int) impl.Node {
	return impl.Node{Kind: impl.NdConst, Value: frac(num, den)}
}

func varNode(number int) impl.Node { return impl.Node{Kind: impl.NdVar, A: number} }

func opNode(kind int, a int, b int) impl.Node { return impl.Node{Kind: kind, A: a, B: b} }

func pickNode(a int, b int, c int) impl.Node {
	return impl.Node{Kind: impl.NdPick, A: a, B: b, C: c}
}

func formula(nodes ...impl.Node) []impl.Node { return nodes }

func pairKinds() []int {
	return []int{impl.NdAdd, impl.NdSub, impl.NdMul, impl.NdDiv, impl.NdMin, impl.NdMax}
}

// behind returns the node n at the index at, behind nodes that have the value 1.
func behind(n impl.Node, at int) []impl.Node {
	return append(slices.Repeat(formula(constNode(1, 1)), at), n)
}

// evalVars holds the ends of the range of fractions and small ones between them.
func evalVars() []impl.Frac {
	return []impl.Frac{
		frac(0, 1), frac(1, 1), frac(-1, 1), frac(1, 2), frac(impl.MaxNum, 1), frac(-impl.MaxNum, 1), frac(1, impl.MaxDen), frac(7, 3),
	}
}

type placedNode struct {
	n  impl.Node
	at int
}

func placed(at int, nodes ...impl.Node) []placedNode {
	var list []placedNode
	for _, n := range nodes {
		list = append(list, placedNode{n, at})
	}
	return list
}

func validNodes() []placedNode {
	var list []placedNode
	for _, at := range []int{math.MinInt, -1, 0, 1, 2, mostNodes - 1, mostNodes, math.MaxInt} {
		for _, a := range validFracs() {
			list = append(list, placed(at, impl.Node{Kind: impl.NdConst, Value: a})...)
		}
		for number := range mostVars {
			list = append(list, placed(at, varNode(number))...)
		}
	}
	for _, kind := range pairKinds() {
		list = append(list, placed(1, opNode(kind, 0, 0))...)
		list = append(list, placed(2, opNode(kind, 0, 0), opNode(kind, 0, 1), opNode(kind, 1, 0), opNode(kind, 1, 1))...)
		for _, at := range []int{3, mostNodes - 1, mostNodes, 1000, math.MaxInt} {
			list = append(list, placed(at, opNode(kind, 0, at-1), opNode(kind, at-1, 0), opNode(kind, at-1, at-1), opNode(kind, at-2, 1))...)
		}
	}
	list = append(list, placed(1, pickNode(0, 0, 0))...)
	for _, at := range []int{2, 3, mostNodes - 1, mostNodes, 1000, math.MaxInt} {
		list = append(list, placed(at, pickNode(at-1, 0, 0), pickNode(0, at-1, 0), pickNode(0, 0, at-1), pickNode(at-1, at-1, at-1), pickNode(at-2, 1, 0))...)
	}
	return list
}

// noKinds holds numbers around those of the kinds, and such that a smaller type takes for a kind.
func noKinds() []int {
	return []int{0, 10, 11, 12, 255, 256, -1, -2, -3, -9, -10, 1<<8 + 1, 1<<16 + 3, 1<<32 + 2, math.MaxInt, math.MinInt}
}

// changedNode returns n with the number in one of the fields A, B and C.
func changedNode(n impl.Node, field int, number int) impl.Node {
	*[]*int{&n.A, &n.B, &n.C}[field] = number
	return n
}

func invalidNodes() []placedNode {
	var list []placedNode
	for _, kind := range noKinds() {
		list = append(list, placed(2, impl.Node{Kind: kind}, opNode(kind, 0, 1), impl.Node{Kind: kind, A: 1, B: 1, C: 1},
			impl.Node{Kind: kind, Value: frac(0, 1)}, impl.Node{Kind: kind, Value: frac(1, 2)})...)
	}
	for _, a := range invalidFracs() {
		list = append(list, placed(2, impl.Node{Kind: impl.NdConst, Value: a})...)
	}
	for _, number := range []int{-1, -2, -8, mostVars, mostVars + 1, 1 << 32, math.MaxInt, math.MinInt} {
		list = append(list, placed(0, varNode(number))...)
		list = append(list, placed(20, varNode(number))...)
	}
	for _, number := range []int{1, -1, 2, 1 << 32, math.MaxInt, math.MinInt} {
		for _, n := range formula(constNode(0, 1), constNode(1, 2)) {
			list = append(list, placed(9, changedNode(n, 0, number), changedNode(n, 1, number), changedNode(n, 2, number))...)
		}
		list = append(list, placed(9, changedNode(varNode(3), 1, number), changedNode(varNode(3), 2, number), changedNode(varNode(0), 2, number))...)
		for _, kind := range pairKinds() {
			list = append(list, placed(9, changedNode(opNode(kind, 0, 0), 2, number), changedNode(opNode(kind, 4, 3), 2, number))...)
		}
	}
	for _, value := range []impl.Frac{frac(0, 1), frac(1, 1), frac(1, 0), frac(0, -1), frac(-7, 3), frac(math.MinInt, 0)} {
		for kind := impl.NdVar; kind <= impl.NdPick; kind++ {
			list = append(list, placed(9, impl.Node{Kind: kind, Value: value})...)
		}
	}
	for _, at := range []int{math.MinInt, -1, 0} {
		list = append(list, placed(at, pickNode(0, 0, 0), pickNode(-1, -1, -1), pickNode(math.MinInt, math.MinInt, math.MinInt))...)
		for _, kind := range pairKinds() {
			list = append(list, placed(at, opNode(kind, 0, 0), opNode(kind, at, at), opNode(kind, -1, -1), opNode(kind, -2, -2))...)
		}
	}
	for _, at := range []int{1, 2, 9, mostNodes - 1} {
		for _, number := range []int{-1, -2, -at, at, at + 1, 1 << 32, math.MaxInt, math.MinInt} {
			for field := range 3 {
				list = append(list, placed(at, changedNode(pickNode(0, 0, 0), field, number))...)
			}
			for _, kind := range pairKinds() {
				list = append(list, placed(at, changedNode(opNode(kind, 0, 0), 0, number), changedNode(opNode(kind, 0, 0), 1, number))...)
			}
		}
	}
	return list
}

// nodeValid is written apart from the program: it counts the fields that are indexes.
func nodeValid(n impl.Node, at int) bool {
	indexes, isKind := map[int]int{1: 0, 2: 0, 3: 2, 4: 2, 5: 2, 6: 2, 7: 2, 8: 2, 9: 3}[n.Kind]
	fields := []int{n.A, n.B, n.C}
	if n.Kind == 2 {
		isKind = 0 <= n.A && n.A <= 7
		fields[0] = 0
	}
	if n.Kind == 1 {
		isKind = n.Value.Den > 0 && isLowest(n.Value)
	} else if n.Value != (impl.Frac{}) {
		return false
	}
	for _, index := range fields[:indexes] {
		isKind = isKind && 0 <= index && index <= at-1
	}
	for _, unused := range fields[indexes:] {
		isKind = isKind && unused == 0
	}
	return isKind
}

func isLowest(a impl.Frac) bool {
	lowest, ok := validOf(ratOf(a))
	return ok && lowest == a
}

func formulaValid(list []impl.Node) bool {
	for i, n := range list {
		if !nodeValid(n, i) {
			return false
		}
	}
	return 1 <= len(list) && len(list) <= mostNodes
}

// exactValues is written apart from the program: it works with exact numbers of any size.
func exactValues(list []impl.Node, vars []impl.Frac) ([]impl.Frac, bool) {
	var values []impl.Frac
	for _, n := range list {
		value, ok := exactValue(n, values, vars)
		if !ok {
			return nil, false
		}
		values = append(values, value)
	}
	return values, true
}

func exactValue(n impl.Node, values []impl.Frac, vars []impl.Frac) (impl.Frac, bool) {
	switch n.Kind {
	case 1:
		return n.Value, true
	case 2:
		return vars[n.A], true
	case 9:
		if ratOf(values[n.A]).Sign() == 1 {
			return values[n.B], true
		}
		return values[n.C], true
	}
	a, b, exact := ratOf(values[n.A]), ratOf(values[n.B]), new(big.Rat)
	largest := max(values[n.A].Num, -values[n.A].Num, values[n.B].Num, -values[n.B].Num)
	switch {
	case n.Kind == 3:
		return validOf(exact.Add(a, b))
	case n.Kind == 4:
		return validOf(exact.Sub(a, b))
	case n.Kind == 5 && largest <= maxFactor:
		return validOf(exact.Mul(a, b))
	case n.Kind == 6 && largest <= maxFactor && b.Sign() != 0:
		return validOf(exact.Quo(a, b))
	case n.Kind == 7 || n.Kind == 8:
		both := []*big.Rat{a, b}
		slices.SortFunc(both, (*big.Rat).Cmp)
		return validOf(both[n.Kind-7])
	}
	return impl.Frac{}, false
}

// neededVars is written apart from the program: it goes from each needed node to its operands.
func neededVars(list []impl.Node) []bool {
	vars := make([]bool, mostVars)
	seen := map[int]bool{}
	var need func(indexes ...int)
	need = func(indexes ...int) {
		for _, i := range indexes {
			n := list[i]
			switch {
			case seen[i] || n.Kind == 1:
			case n.Kind == 2:
				vars[n.A] = true
			case n.Kind == 9:
				need(n.A, n.B, n.C)
			default:
				need(n.A, n.B)
			}
			seen[i] = true
		}
	}
	need(len(list) - 1)
	return vars
}

func validFormulas() [][]impl.Node {
	list := [][]impl.Node{
		formula(constNode(0, 1)),
		formula(varNode(0)),
		formula(varNode(1), varNode(7), opNode(impl.NdAdd, 0, 1), constNode(1, 2), opNode(impl.NdMul, 2, 3)),
		growing(2), growing(mostNodes - 1), growing(mostNodes),
	}
	for _, p := range validNodes() {
		if 0 <= p.at && p.at < mostNodes {
			list = append(list, behind(p.n, p.at))
		}
	}
	return list
}

// growing holds a constant and nodes that each add the one before them to itself.
func growing(count int) []impl.Node {
	list := formula(constNode(1, 1))
	for i := 1; i < count; i++ {
		list = append(list, opNode(impl.NdAdd, i-1, i-1))
	}
	return list
}

func invalidFormulas() [][]impl.Node {
	list := [][]impl.Node{nil, {}, growing(mostNodes + 1), growing(mostNodes + 2), growing(2 * mostNodes), behind(varNode(0), mostNodes)}
	for _, p := range invalidNodes() {
		if 0 <= p.at && p.at < mostNodes {
			// as the last node, in the middle, and followed by nodes up to MaxNodes
			bad := behind(p.n, p.at)
			list = append(list, bad, append(slices.Clone(bad), constNode(1, 1)), append(bad, behind(varNode(1), mostNodes-len(bad))[1:]...))
		}
	}
	for _, n := range formula(pickNode(0, 0, 0), pickNode(1, 1, 1), pickNode(-1, -1, -1), opNode(impl.NdAdd, 0, 0), opNode(impl.NdMax, 1, 1), impl.Node{}) {
		list = append(list, formula(n), formula(n, constNode(1, 1)), formula(n, constNode(1, 1), opNode(impl.NdAdd, 1, 1)))
	}
	return list
}

func TestFormulaLimits(t *testing.T) {
	got := []int{impl.MaxNodes, impl.MaxVars, impl.NdConst, impl.NdVar, impl.NdAdd, impl.NdSub, impl.NdMul, impl.NdDiv, impl.NdMin, impl.NdMax, impl.NdPick}
	if want := []int{30, 8, 1, 2, 3, 4, 5, 6, 7, 8, 9}; !slices.Equal(got, want) {
		t.Errorf("limits and kinds are %v, want %v", got, want)
	}
}

func TestNodeOk(t *testing.T) {
	for _, p := range validNodes() {
		if !impl.NodeOk(p.n, p.at) {
			t.Errorf("NodeOk(%v, %d) = false", p.n, p.at)
		}
	}
	for _, p := range invalidNodes() {
		if impl.NodeOk(p.n, p.at) {
			t.Errorf("NodeOk(%v, %d) = true", p.n, p.at)
		}
	}
}

// TestNodeOkEveryNode judges every node with fields around the ends of their ranges.
func TestNodeOkEveryNode(t *testing.T) {
	numbers := []int{-1, 0, 1, 2, 7, 8}
	for kind := -1; kind <= 11; kind++ {
		for code := range len(numbers) * len(numbers) * len(numbers) {
			n := impl.Node{Kind: kind, A: numbers[code%6], B: numbers[code/6%6], C: numbers[code/36]}
			for _, value := range []impl.Frac{{}, frac(0, 1), frac(1, 2), frac(2, 4), frac(1, 0), frac(0, -1)} {
				n.Value = value
				for _, at := range []int{-1, 0, 1, 2, 3, 7, 8, 9} {
					if got, want := impl.NodeOk(n, at), nodeValid(n, at); got != want {
						t.Errorf("NodeOk(%v, %d) = %v, want %v", n, at, got, want)
					}
				}
			}
		}
	}
}

func TestFormulaOk(t *testing.T) {
	for _, list := range validFormulas() {
		if !impl.FormulaOk(list) {
			t.Errorf("FormulaOk(%v) = false", list)
		}
	}
	for _, list := range invalidFormulas() {
		if impl.FormulaOk(list) {
			t.Errorf("FormulaOk(%v) = true", list)
		}
	}
}

// TestFormulaOkOrder uses nodes that are valid, but each only behind those that it uses.
func TestFormulaOkOrder(t *testing.T) {
	for _, c := range []struct {
		name string
		list []impl.Node
		want bool
	}{
		{"in order", formula(varNode(1), constNode(1, 2), opNode(impl.NdMul, 0, 1)), true},
		{"the operation first", formula(opNode(impl.NdMul, 0, 1), varNode(1), constNode(1, 2)), false},
		{"the operation before one operand", formula(varNode(1), opNode(impl.NdMul, 0, 2), constNode(1, 2)), false},
		{"an operation of itself", formula(varNode(1), opNode(impl.NdMul, 0, 1)), false},
		{"two operations of each other", formula(varNode(1), opNode(impl.NdMul, 0, 2), opNode(impl.NdMul, 0, 1)), false},
		{"a pick before its condition", formula(constNode(1, 2), pickNode(2, 0, 0), varNode(1)), false},
		{"a pick before a branch", formula(varNode(1), pickNode(0, 0, 2), constNode(1, 2)), false},
		{"nodes that nothing uses", formula(varNode(1), constNode(1, 2), constNode(1, 3), varNode(2)), true},
		{"the same node twice", formula(varNode(1), varNode(1), varNode(1)), true},
	} {
		if got := impl.FormulaOk(c.list); got != c.want {
			t.Errorf("%s: FormulaOk(%v) = %v, want %v", c.name, c.list, got, c.want)
		}
	}
}

// checkEval compares EvalAll and Eval with the wanted values.
func checkEval(t *testing.T, name string, list []impl.Node, vars []impl.Frac, want []impl.Frac, wantOk bool) {
	t.Helper()
	if values, ok := impl.EvalAll(list, vars); ok != wantOk || !slices.Equal(values, want) {
		t.Errorf("%s: EvalAll(%v, %v) = %v, %v, want %v, %v", name, list, vars, values, ok, want, wantOk)
	}
	last := impl.Frac{}
	if wantOk {
		last = want[len(want)-1]
	}
	if value, ok := impl.Eval(list, vars); ok != wantOk || value != last {
		t.Errorf("%s: Eval(%v, %v) = %v, %v, want %v, %v", name, list, vars, value, ok, last, wantOk)
	}
}

func TestEvalOneNode(t *testing.T) {
	vars := evalVars()
	for _, a := range validFracs() {
		checkEval(t, "a constant", formula(impl.Node{Kind: impl.NdConst, Value: a}), vars, []impl.Frac{a}, true)
		for number := range mostVars {
			changed := slices.Clone(vars)
			changed[number] = a
			checkEval(t, "a variable", formula(varNode(number)), changed, []impl.Frac{a}, true)
		}
	}
	for number := range mostVars {
		checkEval(t, "a variable", formula(varNode(number)), vars, vars[number:number+1], true)
	}
}

// TestEvalAllNamed wants the value of every node, also of those that the last one does not need.
func TestEvalAllNamed(t *testing.T) {
	for _, c := range []struct {
		name string
		list []impl.Node
		want []impl.Frac
	}{
		{"a shared node", formula(varNode(7), constNode(1, 2), opNode(impl.NdMul, 0, 1), opNode(impl.NdSub, 2, 0)),
			[]impl.Frac{frac(7, 3), frac(1, 2), frac(7, 6), frac(-7, 6)}},
		{"the order of a difference and a quotient", formula(varNode(7), varNode(3), opNode(impl.NdSub, 0, 1), opNode(impl.NdSub, 1, 0), opNode(impl.NdDiv, 0, 1), opNode(impl.NdDiv, 1, 0)),
			[]impl.Frac{frac(7, 3), frac(1, 2), frac(11, 6), frac(-11, 6), frac(14, 3), frac(3, 14)}},
		{"a node that is not needed", formula(varNode(3), varNode(7), opNode(impl.NdAdd, 0, 1), constNode(-5, 1)),
			[]impl.Frac{frac(1, 2), frac(7, 3), frac(17, 6), frac(-5, 1)}},
		{"a pick of a pick", formula(varNode(1), varNode(0), constNode(4, 1), pickNode(1, 0, 2), pickNode(3, 0, 1), pickNode(1, 4, 3)),
			[]impl.Frac{frac(1, 1), frac(0, 1), frac(4, 1), frac(4, 1), frac(1, 1), frac(4, 1)}},
		{"the greatest numbers", formula(varNode(4), varNode(5), opNode(impl.NdAdd, 0, 1), opNode(impl.NdMin, 0, 1), opNode(impl.NdMax, 0, 1)),
			[]impl.Frac{frac(impl.MaxNum, 1), frac(-impl.MaxNum, 1), frac(0, 1), frac(-impl.MaxNum, 1), frac(impl.MaxNum, 1)}},
		{"the same node twice", formula(varNode(7), opNode(impl.NdAdd, 0, 0), opNode(impl.NdSub, 0, 0), opNode(impl.NdMul, 0, 0), opNode(impl.NdDiv, 0, 0),
			opNode(impl.NdMin, 0, 0), opNode(impl.NdMax, 0, 0), pickNode(0, 0, 0), pickNode(2, 2, 2)),
			[]impl.Frac{frac(7, 3), frac(14, 3), frac(0, 1), frac(49, 9), frac(1, 1), frac(7, 3), frac(7, 3), frac(7, 3), frac(0, 1)}},
	} {
		checkEval(t, c.name, c.list, evalVars(), c.want, true)
	}
	powers := []impl.Frac{frac(1, 1)}
	for len(powers) < mostNodes {
		powers = append(powers, frac(2*powers[len(powers)-1].Num, 1))
	}
	for _, count := range []int{1, 2, mostNodes - 1, mostNodes} {
		checkEval(t, "powers of 2", growing(count), evalVars(), powers[:count], true)
	}
	checkEval(t, "too many powers of 2", growing(mostNodes+1), evalVars(), nil, false)
}

func TestEvalMinMax(t *testing.T) {
	for _, c := range []struct{ least, greatest impl.Frac }{
		{frac(1, 3), frac(1, 2)}, {frac(-1, 2), frac(-1, 3)}, {frac(-1, 2), frac(1, 2)}, {frac(0, 1), frac(1, impl.MaxDen)}, {frac(-1, impl.MaxDen), frac(0, 1)},
		{frac(2, 3), frac(3, 4)}, {frac(9, 5), frac(2, 1)}, {frac(999998, 999999), frac(999999, impl.MaxDen)}, {frac(-impl.MaxNum, 1), frac(impl.MaxNum, 1)},
		{frac(1, 2), frac(1, 2)}, {frac(0, 1), frac(0, 1)}, {frac(-7, 3), frac(-7, 3)}, {frac(impl.MaxNum, 1), frac(impl.MaxNum, 1)},
	} {
		for _, pair := range [][2]impl.Frac{{c.least, c.greatest}, {c.greatest, c.least}} {
			list := formula(impl.Node{Kind: impl.NdConst, Value: pair[0]}, impl.Node{Kind: impl.NdConst, Value: pair[1]}, opNode(impl.NdMin, 0, 1))
			checkEval(t, "the smaller one", list, evalVars(), []impl.Frac{pair[0], pair[1], c.least}, true)
			list[2].Kind = impl.NdMax
			checkEval(t, "the greater one", list, evalVars(), []impl.Frac{pair[0], pair[1], c.greatest}, true)
		}
	}
}

func TestEvalPick(t *testing.T) {
	for _, c := range []struct {
		condition impl.Frac
		want      int
	}{
		{frac(1, 1), 1}, {frac(1, impl.MaxDen), 1}, {frac(1, 2), 1}, {frac(2, 1), 1}, {frac(impl.MaxNum, 1), 1},
		{frac(0, 1), 2}, {frac(-1, impl.MaxDen), 2}, {frac(-1, 2), 2}, {frac(-1, 1), 2}, {frac(-impl.MaxNum, 1), 2},
	} {
		list := formula(impl.Node{Kind: impl.NdConst, Value: c.condition}, constNode(-7, 3), constNode(5, 1), pickNode(0, 1, 2), pickNode(0, 0, 1), pickNode(0, 2, 0))
		values := []impl.Frac{c.condition, frac(-7, 3), frac(5, 1), frac(-7, 3), c.condition, frac(5, 1)}
		if c.want == 2 {
			values = []impl.Frac{c.condition, frac(-7, 3), frac(5, 1), frac(5, 1), frac(-7, 3), c.condition}
		}
		checkEval(t, "a condition", list, evalVars(), values, true)
	}
}

// TestEvalNoValue uses formulas with one node without a value, which has one if the variable 0 is
// changed to the number that is good for it.
func TestEvalNoValue(t *testing.T) {
	zero := varNode(0)
	for _, c := range []struct {
		name string
		good impl.Frac
		list []impl.Node
	}{
		{"a division by 0", frac(3, 1), formula(zero, varNode(1), opNode(impl.NdDiv, 1, 0))},
		{"0 divided by 0", frac(3, 1), formula(zero, opNode(impl.NdDiv, 0, 0))},
		{"a division by 0 that is not selected as B", frac(3, 1), formula(zero, varNode(1), opNode(impl.NdDiv, 1, 0), varNode(2), pickNode(3, 2, 1))},
		{"a division by 0 that is not selected as C", frac(3, 1), formula(zero, varNode(1), opNode(impl.NdDiv, 1, 0), pickNode(1, 1, 2))},
		{"a division by 0 that is selected by a test for 0", frac(3, 1), formula(zero, varNode(1), opNode(impl.NdDiv, 1, 0), pickNode(0, 2, 1))},
		{"a division by 0 as a condition", frac(3, 1), formula(zero, varNode(1), opNode(impl.NdDiv, 1, 0), pickNode(2, 1, 1))},
		{"a division by 0 that no node uses", frac(3, 1), formula(zero, varNode(1), opNode(impl.NdDiv, 1, 0), varNode(3))},
		{"a division by 0 that only an unused node uses", frac(3, 1), formula(zero, varNode(1), opNode(impl.NdDiv, 1, 0), opNode(impl.NdMul, 2, 0), varNode(3))},
		{"a division by 0 as the first of MaxNodes", frac(3, 1), append(formula(zero, opNode(impl.NdDiv, 0, 0)), behind(varNode(3), mostNodes-3)...)},
		{"a division by 0 as the last of MaxNodes", frac(3, 1), append(formula(zero), append(behind(varNode(3), mostNodes-3), opNode(impl.NdDiv, 1, 0))...)},
		{"a sum above the greatest number", frac(-1, 1), formula(zero, constNode(1, 1), opNode(impl.NdAdd, 0, 1), varNode(4), opNode(impl.NdAdd, 2, 3))},
		{"a difference below the least number", frac(-1, 1), formula(zero, constNode(1, 1), opNode(impl.NdAdd, 0, 1), varNode(5), opNode(impl.NdSub, 3, 2))},
		{"a sum with a denominator too great", frac(-1, 1000), formula(zero, constNode(1, 1000), opNode(impl.NdAdd, 0, 1), constNode(1, 1001), opNode(impl.NdAdd, 2, 3))},
		{"a difference with a denominator too great", frac(-1, 1000), formula(zero, constNode(1, 1000), opNode(impl.NdAdd, 0, 1), constNode(1, 1001), opNode(impl.NdSub, 2, 3))},
		{"a factor too great", frac(-1, 1), formula(zero, constNode(maxFactor+1, 1), opNode(impl.NdAdd, 0, 1), constNode(1, 1), opNode(impl.NdMul, 2, 3))},
		{"a second factor too small", frac(1, 1), formula(zero, constNode(-maxFactor-1, 1), opNode(impl.NdAdd, 0, 1), constNode(1, 1), opNode(impl.NdMul, 3, 2))},
		{"a dividend too great", frac(-1, 1), formula(zero, constNode(maxFactor+1, 1), opNode(impl.NdAdd, 0, 1), constNode(1, 1), opNode(impl.NdDiv, 2, 3))},
		{"a divisor too great", frac(-1, 1), formula(zero, constNode(maxFactor+1, 1), opNode(impl.NdAdd, 0, 1), constNode(1, 1), opNode(impl.NdDiv, 3, 2))},
		{"a product with a denominator too great", frac(1, 1000), formula(zero, constNode(1, 1000), opNode(impl.NdAdd, 0, 1), constNode(1, 1001), opNode(impl.NdMul, 2, 3))},
		{"a quotient with a denominator too great", frac(1, 1000), formula(zero, constNode(1, 1000), opNode(impl.NdAdd, 0, 1), constNode(1001, 1), opNode(impl.NdDiv, 2, 3))},
	} {
		vars := evalVars()
		checkEval(t, c.name, c.list, vars, nil, false)
		vars[0] = c.good
		want, ok := exactValues(c.list, vars)
		if !ok {
			t.Errorf("%s: the formula has no value with %v either", c.name, c.good)
		}
		checkEval(t, c.name, c.list, vars, want, true)
	}
}

func TestEvalInvalidFormulas(t *testing.T) {
	for _, list := range invalidFormulas() {
		checkEval(t, "an invalid formula", list, evalVars(), nil, false)
		checkEval(t, "an invalid formula without variables", list, nil, nil, false)
		if vars := impl.VarsOf(list); len(vars) != 0 {
			t.Errorf("VarsOf(%v) = %v, want nil", list, vars)
		}
	}
}

// TestEvalInvalidVars uses variables that are not valid, whether the formula uses them or not.
func TestEvalInvalidVars(t *testing.T) {
	formulas := [][]impl.Node{formula(constNode(1, 2)), formula(varNode(0)), formula(varNode(7)), formula(varNode(1), varNode(2), opNode(impl.NdAdd, 0, 1)), growing(mostNodes)}
	for _, list := range formulas {
		for _, count := range []int{0, 1, 2, mostVars - 1, mostVars + 1, mostVars + 2, 2 * mostVars} {
			checkEval(t, "a wrong number of variables", list, slices.Repeat([]impl.Frac{frac(1, 2)}, count), nil, false)
		}
		checkEval(t, "no variables", list, nil, nil, false)
		for number := range mostVars {
			for _, bad := range invalidFracs() {
				vars := evalVars()
				vars[number] = bad
				checkEval(t, "an invalid variable", list, vars, nil, false)
			}
		}
		for _, bad := range invalidFracs() {
			checkEval(t, "an invalid variable behind MaxVars valid ones", list, append(evalVars(), bad), nil, false)
			checkEval(t, "an invalid variable before MaxVars valid ones", list, append([]impl.Frac{bad}, evalVars()...), nil, false)
		}
	}
}

// varsOf returns MaxVars elements, set for these numbers.
func varsOf(numbers ...int) []bool {
	vars := make([]bool, mostVars)
	for _, number := range numbers {
		vars[number] = true
	}
	return vars
}

func TestVarsOf(t *testing.T) {
	all := formula(varNode(0))
	for number := 1; number < mostVars; number++ {
		all = append(all, varNode(number), opNode(impl.NdAdd, 2*number-2, 2*number-1))
	}
	for _, c := range []struct {
		name string
		list []impl.Node
		want []bool
	}{
		{"a constant", formula(constNode(1, 2)), varsOf()},
		{"a variable", formula(varNode(5)), varsOf(5)},
		{"the first and the last variable", formula(varNode(0), varNode(7), opNode(impl.NdSub, 0, 1)), varsOf(0, 7)},
		{"all variables", all, varsOf(0, 1, 2, 3, 4, 5, 6, 7)},
		{"all variables but in nodes that are not needed", append(all, constNode(1, 2)), varsOf()},
		{"a variable in a node that is not needed", formula(varNode(3), varNode(4)), varsOf(4)},
		{"a variable that only an unneeded node uses", formula(varNode(3), varNode(4), opNode(impl.NdAdd, 0, 1), opNode(impl.NdMul, 1, 1)), varsOf(4)},
		{"a chain of unneeded nodes", formula(varNode(3), opNode(impl.NdAdd, 0, 0), opNode(impl.NdAdd, 1, 1), constNode(1, 2), opNode(impl.NdAdd, 3, 3)), varsOf()},
		{"a variable used directly by several nodes", formula(varNode(2), opNode(impl.NdAdd, 0, 0), opNode(impl.NdMul, 0, 1), opNode(impl.NdMin, 2, 0)), varsOf(2)},
		{"a variable in several nodes", formula(varNode(2), varNode(2), opNode(impl.NdMax, 0, 1)), varsOf(2)},
		{"a variable in a needed node and in another one", formula(varNode(2), varNode(2), constNode(1, 1), opNode(impl.NdMax, 1, 2)), varsOf(2)},
		{"the branch that is not selected, B", formula(constNode(-1, 1), varNode(1), varNode(6), pickNode(0, 1, 2)), varsOf(1, 6)},
		{"the branch that is not selected, C", formula(constNode(1, 1), varNode(1), varNode(6), pickNode(0, 1, 2)), varsOf(1, 6)},
		{"only the branch that is not selected", formula(constNode(1, 1), constNode(2, 1), varNode(6), pickNode(0, 1, 2)), varsOf(6)},
		{"all operands of a pick", formula(varNode(4), varNode(1), varNode(6), pickNode(2, 0, 1)), varsOf(1, 4, 6)},
		{"only the condition of a pick", formula(varNode(4), constNode(1, 1), pickNode(0, 1, 1)), varsOf(4)},
		{"a pick that is not needed", formula(varNode(4), varNode(1), varNode(6), pickNode(2, 0, 1), opNode(impl.NdDiv, 1, 1)), varsOf(1)},
		{"a variable whose value does not count", formula(constNode(0, 1), varNode(1), opNode(impl.NdMul, 0, 1)), varsOf(1)},
		{"a formula without a value", formula(constNode(0, 1), varNode(1), opNode(impl.NdDiv, 1, 0)), varsOf(1)},
		// the number of a variable is no index of a node
		{"a variable with the number of another node", formula(varNode(0), constNode(1, 1), varNode(1)), varsOf(1)},
		{"a variable with its own index", formula(varNode(3), varNode(4), varNode(2)), varsOf(2)},
		{"a variable with the index of a later node", formula(varNode(2), varNode(5), varNode(1), opNode(impl.NdAdd, 0, 0)), varsOf(2)},
		{"operands behind one another", behind(pickNode(28, 27, 0), mostNodes-1), varsOf()},
	} {
		if got := impl.VarsOf(c.list); !slices.Equal(got, c.want) {
			t.Errorf("%s: VarsOf(%v) = %v, want %v", c.name, c.list, got, c.want)
		}
	}
	for _, kind := range pairKinds() {
		for _, c := range []struct{ a, b int }{{0, 1}, {1, 0}, {0, 0}, {1, 1}, {2, 0}, {1, 2}} {
			numbers := []int{7, 3, 5}
			list := formula(varNode(7), varNode(3), varNode(5), opNode(kind, c.a, c.b))
			if got, want := impl.VarsOf(list), varsOf(numbers[c.a], numbers[c.b]); !slices.Equal(got, want) {
				t.Errorf("VarsOf(%v) = %v, want %v", list, got, want)
			}
		}
	}
	for _, list := range validFormulas() {
		if got, want := impl.VarsOf(list), neededVars(list); !slices.Equal(got, want) {
			t.Errorf("VarsOf(%v) = %v, want %v", list, got, want)
		}
	}
}

// randomNode is valid at its index. Its operands are mostly near it, so that many nodes are needed.
func randomNode(random *rand.Rand, at int) impl.Node {
	if at == 0 || random.Intn(3) == 0 {
		if random.Intn(2) == 0 {
			return varNode(random.Intn(mostVars))
		}
		small := []impl.Frac{frac(0, 1), frac(1, 1), frac(-1, 1), frac(1, 2), frac(-3, 2), frac(1, 3), frac(12, 1), frac(1, 1000), frac(impl.MaxNum, 1), frac(1000000, 1)}
		return impl.Node{Kind: impl.NdConst, Value: small[random.Intn(len(small))]}
	}
	operand := func() int { return max(random.Intn(at), random.Intn(at)) }
	if kind := impl.NdAdd + random.Intn(7); kind < impl.NdPick {
		return opNode(kind, operand(), operand())
	}
	return pickNode(operand(), operand(), operand())
}

func randomFormula(random *rand.Rand, count int) []impl.Node {
	var list []impl.Node
	for at := range count {
		list = append(list, randomNode(random, at))
	}
	return list
}

func randomVars(random *rand.Rand) []impl.Frac {
	var vars []impl.Frac
	for range mostVars {
		value, _ := validOf(big.NewRat(int64(random.Intn(9)-4), int64(1+random.Intn(4))))
		vars = append(vars, value)
	}
	return vars
}

func TestRandomFormulas(t *testing.T) {
	random := rand.New(rand.NewSource(8))
	evaluated := 0
	const rounds = 4000
	for range rounds {
		list, vars := randomFormula(random, 1+random.Intn(mostNodes)), randomVars(random)
		if !impl.FormulaOk(list) {
			t.Errorf("FormulaOk(%v) = false", list)
		}
		want, wantOk := exactValues(list, vars)
		checkEval(t, "a random formula", list, vars, want, wantOk)
		if wantOk {
			evaluated++
			checkFollows(t, list, vars, want)
		}
		if got, want := impl.VarsOf(list), neededVars(list); !slices.Equal(got, want) {
			t.Errorf("VarsOf(%v) = %v, want %v", list, got, want)
		}
	}
	if evaluated < rounds/10 || evaluated > rounds*9/10 {
		t.Errorf("%d of %d random formulas have a value", evaluated, rounds)
	}
}

// checkFollows checks the promise: the first values are those of the first nodes alone, and a node
// has the same value if nodes that it does not need, and the variables that it does not use, are
// replaced by others.
func checkFollows(t *testing.T, list []impl.Node, vars []impl.Frac, values []impl.Frac) {
	t.Helper()
	for count := 1; count <= len(list); count++ {
		part := list[:count]
		checkEval(t, "the first nodes", part, vars, values[:count], true)
		checkEval(t, "the node behind its values", append(constants(values[:count-1]), part[count-1]), vars, values[:count], true)
		needed := impl.VarsOf(part)
		changed := slices.Clone(vars)
		for number := range changed {
			if !needed[number] {
				changed[number] = frac(99, 7)
			}
		}
		if value, ok := impl.Eval(part, changed); ok && value != values[count-1] {
			t.Errorf("Eval(%v, %v) = %v, but with other variables that are not needed it is %v", part, vars, values[count-1], value)
		}
	}
}

// constants holds nodes that have these values.
func constants(values []impl.Frac) []impl.Node {
	var list []impl.Node
	for _, value := range values {
		list = append(list, impl.Node{Kind: impl.NdConst, Value: value})
	}
	return list
}

// changedFormula returns a random formula with one field set to a number or a value around the ends
// of its range.
func changedFormula(random *rand.Rand) []impl.Node {
	list := randomFormula(random, 1+random.Intn(6))
	at := random.Intn(len(list))
	numbers := []int{-1, 0, 1, at - 1, at, at + 1, 7, 8, 9, 10}
	switch field := random.Intn(5); field {
	case 3:
		list[at].Kind = numbers[random.Intn(len(numbers))]
	case 4:
		list[at].Value = append(invalidFracs(), frac(0, 1), frac(1, 2))[random.Intn(len(invalidFracs())+2)]
	default:
		list[at] = changedNode(list[at], field, numbers[random.Intn(len(numbers))])
	}
	return list
}

func TestRandomFormulasChanged(t *testing.T) {
	random := rand.New(rand.NewSource(88))
	for range 4000 {
		list := changedFormula(random)
		valid := formulaValid(list)
		if got := impl.FormulaOk(list); got != valid {
			t.Errorf("FormulaOk(%v) = %v, want %v", list, got, valid)
		}
		var values []impl.Frac
		var vars []bool
		ok := false
		if valid {
			values, ok = exactValues(list, evalVars())
			vars = neededVars(list)
		}
		checkEval(t, "a changed formula", list, evalVars(), values, ok)
		if got := impl.VarsOf(list); !slices.Equal(got, vars) {
			t.Errorf("VarsOf(%v) = %v, want %v", list, got, vars)
		}
	}
}

// withRoom returns a copy of list that has room behind it, filled with a mark.
func withRoom[T any](list []T, mark T) []T {
	const room = 4
	return append(slices.Clone(list), slices.Repeat([]T{mark}, room)...)[: len(list) : len(list)+room]
}

// isWithRoom reports whether given and the room behind it are as withRoom made them of list.
func isWithRoom[T comparable](given []T, list []T, mark T) bool {
	return slices.Equal(given[:cap(given)], withRoom(list, mark)[:len(list)+4])
}

// overwriteAll changes a list and the room behind it.
func overwriteAll[T any](list []T, mark T) {
	whole := list[:cap(list)]
	for i := range whole {
		whole[i] = mark
	}
}

func TestFormulasShareNoMemory(t *testing.T) {
	markNode, markVar := impl.Node{Kind: -1, A: -2, B: -3, C: -4, Value: frac(-5, -6)}, frac(-7, -8)
	for _, list := range slices.Concat(validFormulas(), invalidFormulas()) {
		for _, vars := range [][]impl.Frac{evalVars(), nil, evalVars()[:7], append(evalVars(), frac(1, 1)), append([]impl.Frac{{}}, evalVars()[1:]...)} {
			given, givenVars := withRoom(list, markNode), withRoom(vars, markVar)
			one, oneOk := impl.EvalAll(given, givenVars)
			other, otherOk := impl.EvalAll(given, givenVars)
			value, _ := impl.Eval(given, givenVars)
			needed, neededToo := impl.VarsOf(given), impl.VarsOf(given)
			impl.FormulaOk(given)
			values, flags := slices.Clone(one), slices.Clone(needed)
			if oneOk != otherOk || oneOk && value != values[len(values)-1] {
				t.Errorf("Eval(%v, %v) = %v, but EvalAll returns %v", list, vars, value, values)
			}
			overwriteAll(one, markVar)
			overwriteAll(needed, true)
			if !isWithRoom(given, list, markNode) || !isWithRoom(givenVars, vars, markVar) {
				t.Errorf("a function changes its arguments %v and %v, or a change of a result does", list, vars)
			}
			overwriteAll(given, markNode)
			overwriteAll(givenVars, markVar)
			if !slices.Equal(other, values) || !slices.Equal(neededToo, flags) {
				t.Errorf("the results for %v and %v share memory with an argument or with one another", list, vars)
			}
		}
	}
}
