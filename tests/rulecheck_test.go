package tests

import (
	"math"
	"math/rand"
	"slices"
	"testing"

	"loop.example/g00057/impl"
)

func rules(list ...impl.Rule) []impl.Rule {
	return list
}

func flaw(place int64, list ...impl.Box) impl.Flaw {
	return impl.Flaw{Rule: place, Boxes: list}
}

func flaws(list ...impl.Flaw) impl.FlawsResult {
	return impl.FlawsResult{Flaws: list}
}

func checkRulesFault(t *testing.T, list []impl.Rule, layers int64, want int64) {
	t.Helper()
	if got := impl.RulesFault(list, layers); got != want {
		t.Errorf("RulesFault(%s, %d) = %d, want %d", brief(list), layers, got, want)
	}
}

func TestRulesFaultByHand(t *testing.T) {
	right := rule(impl.RuleThin, 0, 0, 1)
	kind, a, b, size := rule(6, 0, 0, 1), rule(impl.RuleNear, 3, 0, 1), rule(impl.RuleCover, 0, 3, 1), rule(impl.RuleSmall, 0, 0, 0)
	cases := []struct {
		list []impl.Rule
		want int64
	}{
		{nil, impl.OK}, {rules(right), impl.OK}, {rules(kind), impl.ErrForm}, {rules(a), impl.ErrForm}, {rules(b), impl.ErrForm}, {rules(size), impl.ErrRange},
		{rules(right, right, size), impl.ErrRange}, {rules(right, kind, size), impl.ErrForm}, {rules(right, size, kind), impl.ErrRange}, {rules(size, b, a), impl.ErrRange}, {rules(b, size), impl.ErrForm},
		{rules(rule(6, 0, 0, 0)), impl.ErrForm}, {rules(rule(impl.RuleThin, 3, 0, 1001)), impl.ErrForm}, {rules(rule(impl.RuleApart, 0, -1, 0)), impl.ErrForm},
		{rules(rule(impl.RuleApart, 0, 2, 0)), impl.ErrRange}, {rules(rule(impl.RuleSmall, 0, 99, 1)), impl.OK}, {rules(rule(impl.RuleSmall, 0, 99, 1001)), impl.ErrRange},
		{longer(rules(right), impl.MaxRules), impl.OK}, {longer(rules(right), impl.MaxRules+1), impl.ErrMany}, {longer(rules(size), impl.MaxRules+1), impl.ErrMany}, {longer(rules(kind), impl.MaxRules+1), impl.ErrMany},
		{append(longer(rules(right), impl.MaxRules-1), size), impl.ErrRange}, {append(longer(rules(right), impl.MaxRules-1), kind), impl.ErrForm}, {append(longer(rules(right), impl.MaxRules), kind), impl.ErrMany},
	}
	for _, c := range cases {
		checkRulesFault(t, c.list, 3, c.want)
	}
}

// kindEdges are the kinds, the numbers beside them, and those that are kinds only in fewer bits.
func kindEdges() []int64 {
	return []int64{math.MinInt64, math.MinInt64 + 1, -5, -1, 0, 1, 2, 3, 4, 5, 6, 7, 257, 1<<32 + 1, math.MaxInt64}
}

func TestEveryRuleHasItsFault(t *testing.T) {
	for _, layers := range []int64{math.MinInt64, math.MinInt64 + 1, -1, 0, 1, 2, 8, 9, math.MaxInt64} {
		places := []int64{math.MinInt64, -1, 0, 1, 7, 8, math.MaxInt64 - 1, math.MaxInt64}
		if layers > 0 {
			places = append(places, layers-1, layers)
		}
		checkRulesFault(t, nil, layers, impl.OK)
		for _, kind := range kindEdges() {
			for _, a := range places {
				for _, b := range places {
					for _, size := range sizeEdges() {
						list := rules(rule(kind, a, b, size))
						checkRulesFault(t, list, layers, rulesFaultWant(list, layers))
					}
				}
			}
		}
	}
}

// someRules are of so many layers; some of them are at a bound or beyond it.
func someRules(chance *rand.Rand, layers int64) []impl.Rule {
	var list []impl.Rule
	sizes := append(sizeEdges(), 5, 7, 10)
	for range chance.Intn(5) {
		r := rule(1+chance.Int63n(5), chance.Int63n(max(1, layers)), chance.Int63n(max(1, layers)), 1+chance.Int63n(12))
		switch chance.Intn(24) {
		case 0:
			r.Kind = kindEdges()[chance.Intn(len(kindEdges()))]
		case 1:
			r.A = layers - 1 + chance.Int63n(3)
		case 2:
			r.B = layers - 1 + chance.Int63n(3)
		case 3, 4:
			r.Size = sizes[chance.Intn(len(sizes))]
		}
		list = append(list, r)
	}
	return list
}

func TestFaultsOfSomeRules(t *testing.T) {
	chance := rand.New(rand.NewSource(11))
	met := map[int64]int{}
	for range 5000 {
		layers := chance.Int63n(9)
		list := someRules(chance, layers)
		want := rulesFaultWant(list, layers)
		met[want]++
		checkRulesFault(t, list, layers, want)
	}
	if met[impl.OK] < 50 || met[impl.ErrForm] < 50 || met[impl.ErrRange] < 50 {
		t.Errorf("the codes are %v: the rules do not ask for all of them", met)
	}
}

// checkedLayers: a plus, two bars with a gap of one cell between, a plate, a dot in it and one beside it, none.
func checkedLayers() [][]impl.Box {
	return [][]impl.Box{
		plus(),
		boxes(box(0, 0, 9, 4), box(0, 5, 9, 9)),
		boxes(box(20, 20, 40, 40)),
		boxes(box(21, 30, 22, 31), box(41, 30, 42, 31)),
		nil,
	}
}

func TestEachKindOfRule(t *testing.T) {
	gap, dots := box(0, 4, 9, 5), checkedLayers()[3]
	arms := boxes(box(3, 0, 6, 3), box(0, 3, 3, 6), box(6, 3, 9, 6), box(3, 6, 6, 9))
	cases := []struct {
		name string
		list []impl.Rule
		want impl.FlawsResult
	}{
		{"no rules", nil, flaws()},
		{"thin", rules(rule(impl.RuleThin, 0, 0, 4)), flaws(flaw(0, arms...))}, {"not thin", rules(rule(impl.RuleThin, 0, 0, 3)), flaws()},
		{"near", rules(rule(impl.RuleNear, 1, 0, 2)), flaws(flaw(0, gap))}, {"not near", rules(rule(impl.RuleNear, 1, 0, 1)), flaws()},
		{"cover", rules(rule(impl.RuleCover, 3, 2, 1)), flaws(flaw(0, box(40, 29, 43, 32)))}, {"cover, the other way round", rules(rule(impl.RuleCover, 2, 3, 1)), checkRulesWant(checkedLayers(), rules(rule(impl.RuleCover, 2, 3, 1)))},
		{"cover by 2", rules(rule(impl.RuleCover, 3, 2, 2)), flaws(flaw(0, box(19, 28, 20, 33), box(40, 28, 44, 33)))},
		{"apart", rules(rule(impl.RuleApart, 2, 3, 1)), flaws(flaw(0, dots[0]))}, {"apart by 2", rules(rule(impl.RuleApart, 2, 3, 2)), flaws(flaw(0, dots...))},
		{"apart, the other way round", rules(rule(impl.RuleApart, 3, 2, 1)), flaws(flaw(0, box(20, 29, 23, 32)))}, {"apart from none", rules(rule(impl.RuleApart, 3, 4, 9)), flaws()},
		{"small", rules(rule(impl.RuleSmall, 3, 0, 2)), flaws(flaw(0, dots...))}, {"not small", rules(rule(impl.RuleSmall, 3, 0, 1)), flaws()},
		{"of no cells", rules(rule(impl.RuleThin, 4, 0, 9), rule(impl.RuleNear, 4, 0, 9), rule(impl.RuleCover, 4, 0, 9), rule(impl.RuleApart, 4, 0, 9), rule(impl.RuleSmall, 4, 0, 9)), flaws()},
		{"B is not asked", rules(rule(impl.RuleThin, 3, -7, 2), rule(impl.RuleNear, 1, 5, 2), rule(impl.RuleSmall, 3, math.MinInt64, 2)), flaws(flaw(0, dots...), flaw(1, gap), flaw(2, dots...))},
		{"some tell, some do not", rules(rule(impl.RuleThin, 0, 0, 3), rule(impl.RuleNear, 1, 0, 2), rule(impl.RuleNear, 0, 0, 2), rule(impl.RuleSmall, 3, 0, 2)), flaws(flaw(1, gap), flaw(3, dots...))},
		{"rules that stand twice", rules(rule(impl.RuleNear, 1, 0, 2), rule(impl.RuleThin, 2, 0, 5), rule(impl.RuleNear, 1, 0, 2)), flaws(flaw(0, gap), flaw(2, gap))},
		{"as many as may be", longer(rules(rule(impl.RuleNear, 1, 0, 2)), impl.MaxRules), manyFlaws(impl.MaxRules, gap)},
	}
	for _, c := range cases {
		checkFlaws(t, c.name, impl.CheckRules(checkedLayers(), c.list), c.want)
		checkFlaws(t, c.name+", by the tests' own reckoning", checkRulesWant(checkedLayers(), c.list), c.want)
	}
}

// manyFlaws are of as many rules that all tell one box.
func manyFlaws(n int64, b impl.Box) impl.FlawsResult {
	var list []impl.Flaw
	for i := range n {
		list = append(list, flaw(i, b))
	}
	return flaws(list...)
}

func TestCodesOfCheckedRules(t *testing.T) {
	const m = impl.MaxPlace
	right, kind, size, many := rules(rule(impl.RuleThin, 0, 0, 4)), rules(rule(0, 0, 0, 4)), rules(rule(impl.RuleThin, 0, 0, 0)), longer(rules(rule(impl.RuleThin, 0, 0, 4)), impl.MaxRules+1)
	dot, edge, columns := boxes(box(0, 0, 1, 1)), boxes(box(-m, 0, -m+1, 1)), twoColumns(75, 0)
	wrong := faultyShapes()
	cases := []struct {
		name   string
		layers [][]impl.Box
		list   []impl.Rule
		want   int64
	}{
		{"nothing at all", nil, nil, impl.OK}, {"no layers, a rule", nil, right, impl.ErrForm}, {"no layers, too many rules", nil, many, impl.ErrMany}, {"no layers, a wrong size", nil, size, impl.ErrForm},
		{"as many layers as may be", make([][]impl.Box, impl.MaxLayers), right, impl.OK}, {"one more", make([][]impl.Box, impl.MaxLayers+1), right, impl.ErrMany},
		{"one more, none right", longer([][]impl.Box{wrong[impl.ErrForm]}, impl.MaxLayers+1), kind, impl.ErrMany},
		{"a wrong layer that no rule names", [][]impl.Box{dot, wrong[impl.ErrRange]}, right, impl.ErrRange}, {"a wrong layer, no rules", [][]impl.Box{wrong[impl.ErrForm]}, nil, impl.ErrForm},
		{"two wrong layers", [][]impl.Box{dot, wrong[impl.ErrRange], wrong[impl.ErrForm]}, many, impl.ErrRange}, {"two wrong layers, the other way round", [][]impl.Box{dot, wrong[impl.ErrForm], wrong[impl.ErrRange]}, many, impl.ErrForm},
		{"a wrong layer, a wrong rule", [][]impl.Box{wrong[impl.ErrRange]}, kind, impl.ErrRange}, {"a layer of too many boxes, a wrong rule", [][]impl.Box{wrong[impl.ErrMany]}, size, impl.ErrMany},
		{"a wrong kind", [][]impl.Box{dot}, kind, impl.ErrForm}, {"a wrong size", [][]impl.Box{dot}, size, impl.ErrRange}, {"too many rules", [][]impl.Box{dot}, many, impl.ErrMany},
		{"A is the last layer", [][]impl.Box{dot, dot}, rules(rule(impl.RuleSmall, 1, 0, 2)), impl.OK}, {"A is behind the last layer", [][]impl.Box{dot, dot}, rules(rule(impl.RuleSmall, 2, 0, 2)), impl.ErrForm},
		{"B is the last layer", [][]impl.Box{dot, dot}, rules(rule(impl.RuleCover, 0, 1, 2)), impl.OK}, {"B is behind the last layer", [][]impl.Box{dot, dot}, rules(rule(impl.RuleCover, 0, 2, 2)), impl.ErrForm},
		{"a wrong rule behind one that has a code", [][]impl.Box{edge}, rules(rule(impl.RuleCover, 0, 0, 1), rule(9, 0, 0, 1)), impl.ErrForm},
		{"beyond the places, behind flaws", [][]impl.Box{edge}, rules(rule(impl.RuleThin, 0, 0, 2), rule(impl.RuleCover, 0, 0, 1)), impl.ErrRange},
		{"beyond the places, ahead of flaws", [][]impl.Box{edge}, rules(rule(impl.RuleApart, 0, 0, 1), rule(impl.RuleThin, 0, 0, 2)), impl.ErrRange},
		{"too many boxes, behind flaws", [][]impl.Box{columns}, rules(rule(impl.RuleThin, 0, 0, 2), rule(impl.RuleApart, 0, 0, 1)), impl.ErrMany},
		{"one code behind another", [][]impl.Box{columns, edge}, rules(rule(impl.RuleCover, 0, 0, 1), rule(impl.RuleCover, 1, 1, 1)), impl.ErrMany},
		{"one code behind another, the other way round", [][]impl.Box{columns, edge}, rules(rule(impl.RuleCover, 1, 1, 1), rule(impl.RuleCover, 0, 0, 1)), impl.ErrRange},
		{"too many thin boxes", [][]impl.Box{dot, comb(11, 12, 7)}, rules(rule(impl.RuleSmall, 0, 0, 2), rule(impl.RuleThin, 1, 0, 20)), impl.ErrMany},
		{"too many gaps", [][]impl.Box{dot, cave(11, 12, 7)}, rules(rule(impl.RuleSmall, 0, 0, 2), rule(impl.RuleNear, 1, 0, 20)), impl.ErrMany},
		{"B beyond the places", [][]impl.Box{dot, edge}, rules(rule(impl.RuleCover, 0, 1, 5), rule(impl.RuleApart, 0, 1, 5)), impl.OK},
	}
	for _, c := range cases {
		got := impl.CheckRules(c.layers, c.list)
		if got.Code != c.want || c.want != impl.OK && len(got.Flaws) > 0 {
			t.Errorf("%s: code %d, %d flaws, want the code %d", c.name, got.Code, len(got.Flaws), c.want)
		}
		checkFlaws(t, c.name, got, checkRulesWant(c.layers, c.list))
	}
}

// someLayers are right, but for now and then one.
func someLayers(chance *rand.Rand) [][]impl.Box {
	layers := make([][]impl.Box, chance.Intn(10))
	for i := range layers {
		layers[i] = formOfBoxes(someBoxes(chance.Int63(), chance.Intn(7), 9))
		if chance.Intn(100) == 0 {
			layers[i] = append(layers[i], box(0, 0, chance.Int63n(3)*10000, 1))
		}
	}
	return layers
}

func TestSomeLayersAndRules(t *testing.T) {
	chance := rand.New(rand.NewSource(12))
	met := map[int64]int{}
	for range 3000 {
		layers := someLayers(chance)
		list := someRules(chance, int64(len(layers)))
		want := checkRulesWant(layers, list)
		met[want.Code]++
		checkFlaws(t, brief(layers)+" with "+brief(list), impl.CheckRules(layers, list), want)
	}
	for _, code := range []int64{impl.OK, impl.ErrForm, impl.ErrMany, impl.ErrRange} {
		if met[code] < 20 {
			t.Errorf("the code %d was met %d times: the layers and rules do not ask for it", code, met[code])
		}
	}
}

// The flaws of many rules are those of each rule by itself.
func TestRulesStandByThemselves(t *testing.T) {
	chance := rand.New(rand.NewSource(13))
	for range 300 {
		layers := someLayers(chance)
		list := someRules(chance, int64(len(layers)))
		all := impl.CheckRules(layers, list)
		if all.Code != impl.OK {
			continue
		}
		var each []impl.Flaw
		for i, r := range list {
			for _, f := range impl.CheckRules(layers, rules(r)).Flaws {
				each = append(each, flaw(int64(i), f.Boxes...))
			}
		}
		checkFlaws(t, "each by itself", all, flaws(each...))
	}
}

func checkCell(t *testing.T, what string, list []impl.Cell, name string, asked []impl.Rule, want impl.FlawsResult) {
	t.Helper()
	checkFlaws(t, "CheckCell, "+what, impl.CheckCell(list, name, asked), want)
	checkFlaws(t, "CheckCell, "+what+", by the tests' own reckoning", checkCellWant(list, name, asked), want)
}

// A pair of dots on layer 2, placed twice, a plate on layer 7, and boxes on layers that no rule can name.
func checkedCells() []impl.Cell {
	return []impl.Cell{
		cellWith("pair", lboxes(on(2, box(0, 0, 1, 1)), on(2, box(2, 0, 3, 1)), on(8, box(0, 0, 1, 1)))),
		cellWith("top", lboxes(on(7, box(-1, -1, 4, 2)), on(15, box(0, 0, 900, 1)), on(9, box(0, 0, 1, 1))), rowsOf("pair", 2, 1, 10, 0)),
		cellWith("empty", nil),
	}
}

func TestCheckCellByHand(t *testing.T) {
	list := checkedCells()
	near, cover := rule(impl.RuleNear, 2, 0, 2), rule(impl.RuleCover, 2, 7, 1)
	checkCell(t, "near", list, "pair", rules(near), flaws(flaw(0, box(1, 0, 2, 1))))
	checkCell(t, "near, placed twice", list, "top", rules(near), flaws(flaw(0, box(1, 0, 2, 1), box(11, 0, 12, 1))))
	checkCell(t, "covered and not", list, "top", rules(cover), flaws(flaw(0, box(9, -1, 14, 2))))
	checkCell(t, "not covered at all", list, "pair", rules(cover), flaws(flaw(0, box(-1, -1, 4, 2))))
	checkCell(t, "the last of the layers", list, "top", rules(rule(impl.RuleThin, 7, 0, 4), rule(impl.RuleThin, 7, 0, 3)), flaws(flaw(0, box(-1, -1, 4, 2))))
	checkCell(t, "no boxes", list, "empty", rules(near, cover), flaws())
	checkCell(t, "no rules", list, "top", nil, flaws())
	for layer := range int64(8) {
		want := flaws()
		if layer == 2 {
			want = flaws(flaw(0, box(0, 0, 1, 1), box(2, 0, 3, 1)))
		}
		checkCell(t, "each layer", list, "pair", rules(rule(impl.RuleSmall, layer, 0, 9)), want)
	}
	checkCell(t, "a layer too far", list, "top", rules(rule(impl.RuleThin, 8, 0, 4)), flawsCode(impl.ErrForm))
	checkCell(t, "a second layer too far", list, "top", rules(rule(impl.RuleCover, 2, 8, 4)), flawsCode(impl.ErrForm))
	checkCell(t, "a layer below 0", list, "top", rules(rule(impl.RuleThin, -1, 0, 4)), flawsCode(impl.ErrForm))
	checkCell(t, "a wrong size", list, "top", rules(near, rule(impl.RuleThin, 0, 0, 0)), flawsCode(impl.ErrRange))
	checkCell(t, "as many rules as may be", list, "pair", longer(rules(near), impl.MaxRules), manyFlaws(impl.MaxRules, box(1, 0, 2, 1)))
	checkCell(t, "too many rules", list, "top", longer(rules(near), impl.MaxRules+1), flawsCode(impl.ErrMany))
}

func TestCodesOfCheckedCells(t *testing.T) {
	wrong := rules(rule(0, 0, 0, 0))
	list := checkedCells()
	for _, name := range []string{"", "none", "TOP", "top ", "é"} {
		checkCell(t, "no such cell", list, name, wrong, flawsCode(impl.ErrNone))
		checkCell(t, "no such cell, no rules", list, name, nil, flawsCode(impl.ErrNone))
	}
	checkCell(t, "no cells", nil, "a", wrong, flawsCode(impl.ErrNone))
	checkCell(t, "a layout with a fault", append(checkedCells(), unit("top")), "none", longer(wrong, 40), flawsCode(impl.ErrForm))
	checkCell(t, "too many flat boxes", chainOf(unit("a"), 4, 20, 1), "cd", wrong, flawsCode(impl.ErrMany))
	checkCell(t, "a box beyond the places, on a layer that no rule can name", []impl.Cell{cellWith("a", lboxes(on(15, box(9999, 0, 10000, 1)))), cellWith("b", nil, once("a", 1, 0))}, "b", wrong, flawsCode(impl.ErrRange))
	// 151 boxes of one cell: too many for a layer, though the layout is right.
	for layer, want := range map[int64]int64{0: impl.ErrMany, 7: impl.ErrMany, 8: impl.OK, 15: impl.OK} {
		many := []impl.Cell{cellWith("a", lboxes(on(layer, box(0, 0, 1, 1)))), cellWith("b", lboxes(on(layer, box(0, 0, 1, 1))), rowsOf("a", 15, 10, 0, 0))}
		checkCell(t, "151 boxes on one layer", many, "b", nil, flawsCode(want))
		if want != impl.OK {
			checkCell(t, "151 boxes on one layer, a wrong rule", many, "b", wrong, flawsCode(want))
		}
	}
	edge := []impl.Cell{cellWith("a", lboxes(on(0, box(9999, 0, 10000, 1)), on(1, box(0, 0, 1, 1))))}
	checkCell(t, "an answer with a code, behind flaws", edge, "a", rules(rule(impl.RuleThin, 1, 0, 2), rule(impl.RuleCover, 0, 1, 1)), flawsCode(impl.ErrRange))
}

func TestSomeCellsAndRules(t *testing.T) {
	chance := rand.New(rand.NewSource(14))
	met := map[int64]int{}
	for i, list := range someLibs(200) {
		for _, name := range someNames()[:8] {
			asked := someRules(chance, 3)
			if i%7 == 0 {
				asked = someRules(chance, 8)
			}
			want := checkCellWant(list, name, asked)
			met[want.Code]++
			checkFlaws(t, brief(list)+" "+name+" with "+brief(asked), impl.CheckCell(list, name, asked), want)
		}
	}
	for _, code := range []int64{impl.OK, impl.ErrForm, impl.ErrMany, impl.ErrRange, impl.ErrNone} {
		if met[code] < 5 {
			t.Errorf("the code %d was met %d times: the layouts and rules do not ask for it", code, met[code])
		}
	}
}

// What is asked of a cell is what is asked of its layers, made one by one.
func TestCellsAndLayersAnswerAlike(t *testing.T) {
	chance := rand.New(rand.NewSource(15))
	for seed := range int64(200) {
		list := someLib(seed)
		name := lastName(list)
		asked := someRules(chance, 4)
		var layers [][]impl.Box
		for n := range int64(impl.MaxLayers) {
			layers = append(layers, impl.LayerOf(list, name, n).Boxes)
		}
		if slices.ContainsFunc([]int64{0, 1, 2}, func(n int64) bool { return impl.LayerOf(list, name, n).Code != impl.OK }) {
			continue
		}
		checkFlaws(t, "a cell and its layers", impl.CheckCell(list, name, asked), impl.CheckRules(layers, asked))
	}
}
