package tests

import (
	"math/rand"
	"slices"
	"testing"

	"loop.example/g00057/impl"
)

// ruleAsk has what the calls of chapter 4 are given; each takes what it needs.
type ruleAsk struct {
	a, b   []impl.Box
	n      int64
	layers [][]impl.Box
	rules  []impl.Rule
	cells  []impl.Cell
	name   string
}

// ruleAnswer has what a call answers, and else nothing.
type ruleAnswer struct {
	code  int64
	shape impl.ShapeResult
	parts impl.PartsResult
	flaws impl.FlawsResult
}

type ruleCall struct {
	name string
	call func(q ruleAsk) ruleAnswer
}

func ruleCalls() []ruleCall {
	return []ruleCall{
		{"ThinOf", func(q ruleAsk) ruleAnswer { return ruleAnswer{shape: impl.ThinOf(q.a, q.n)} }},
		{"NearOf", func(q ruleAsk) ruleAnswer { return ruleAnswer{shape: impl.NearOf(q.a, q.n)} }},
		{"CoverOf", func(q ruleAsk) ruleAnswer { return ruleAnswer{shape: impl.CoverOf(q.a, q.b, q.n)} }},
		{"ApartOf", func(q ruleAsk) ruleAnswer { return ruleAnswer{shape: impl.ApartOf(q.a, q.b, q.n)} }},
		{"ApartOf itself", func(q ruleAsk) ruleAnswer { return ruleAnswer{shape: impl.ApartOf(q.a, q.a, q.n)} }},
		{"PartsOf", func(q ruleAsk) ruleAnswer { return ruleAnswer{parts: impl.PartsOf(q.a)} }},
		{"SmallOf", func(q ruleAsk) ruleAnswer { return ruleAnswer{shape: impl.SmallOf(q.a, q.n)} }},
		{"RulesFault", func(q ruleAsk) ruleAnswer { return ruleAnswer{code: impl.RulesFault(q.rules, q.n)} }},
		{"CheckRules", func(q ruleAsk) ruleAnswer { return ruleAnswer{flaws: impl.CheckRules(q.layers, q.rules)} }},
		{"CheckCell", func(q ruleAsk) ruleAnswer { return ruleAnswer{flaws: impl.CheckCell(q.cells, q.name, q.rules)} }},
	}
}

func (q ruleAsk) copied() ruleAsk {
	q.a, q.b, q.rules, q.cells = slices.Clone(q.a), slices.Clone(q.b), slices.Clone(q.rules), copyLib(q.cells)
	q.layers = slices.Clone(q.layers)
	for i, s := range q.layers {
		q.layers[i] = slices.Clone(s)
	}
	return q
}

// roomed has room behind each list, and each within it, which no call may write into.
func (q ruleAsk) roomed() ruleAsk {
	q.a, q.b, q.rules, q.cells = roomy(q.a), roomy(q.b), withRoom(q.rules, rule(77, 77, 77, 77)), roomyLib(q.cells)
	q.layers = withRoom(q.layers, boxes(box(-77, -77, 77, 77)))
	for i, s := range q.layers {
		q.layers[i] = roomy(s)
	}
	return q
}

// wholly has what lies behind the ends of the lists, too.
func (q ruleAsk) wholly() ruleAsk {
	q.a, q.b, q.rules, q.cells = whole(q.a), whole(q.b), q.rules[:cap(q.rules)], wholeLib(q.cells)
	q.layers = slices.Clone(q.layers[:cap(q.layers)])
	for i, s := range q.layers {
		q.layers[i] = whole(s)
	}
	return q
}

func (q ruleAsk) same(p ruleAsk) bool {
	same := func(s []impl.Box, r []impl.Box) bool { return slices.Equal(s, r) }
	return slices.Equal(q.a, p.a) && slices.Equal(q.b, p.b) && slices.Equal(q.rules, p.rules) && sameLib(q.cells, p.cells) && slices.EqualFunc(q.layers, p.layers, same)
}

func (q ruleAsk) scribble() {
	scribble(q.a)
	scribble(q.b)
	scribbleAll(q.rules, rule(-5, -6, -7, -8))
	scribbleLib(q.cells)
	for _, s := range q.layers {
		scribble(s)
	}
	scribbleAll(q.layers, nil)
}

func (a ruleAnswer) same(b ruleAnswer) bool {
	return a.code == b.code && sameShape(a.shape, b.shape) && sameParts(a.parts, b.parts) && sameFlaws(a.flaws, b.flaws)
}

// lists are the lists of boxes within an answer, not copies of them.
func (a ruleAnswer) lists() [][]impl.Box {
	lists := append([][]impl.Box{a.shape.Boxes}, a.parts.Parts...)
	for _, f := range a.flaws.Flaws {
		lists = append(lists, f.Boxes)
	}
	return lists
}

func (a ruleAnswer) scribble() {
	for _, list := range a.lists() {
		scribble(list)
	}
	scribbleAll(a.parts.Parts, nil)
	scribbleAll(a.flaws.Flaws, flaw(-5))
}

// someAsks are right and wrong ones, the same at every run.
func someAsks(n int) []ruleAsk {
	chance := rand.New(rand.NewSource(16))
	lists, libs, names, sizes := wildLists(), someLibs(n/2), someNames(), append(sizeEdges(), 2, 3, 4, 5, 6)
	shapes := someShapes(60, 9)
	var asks []ruleAsk
	for i := range n {
		q := ruleAsk{a: lists[i%len(lists)], b: lists[(i*7+3)%len(lists)], n: sizes[chance.Intn(len(sizes))], layers: someLayers(chance), cells: libs[i%len(libs)], name: names[i%len(names)]}
		if i%2 == 1 {
			q.a, q.b, q.n, q.name = shapes[i%len(shapes)], shapes[(i*7+3)%len(shapes)], chance.Int63n(12), "a"
		}
		q.rules = someRules(chance, int64(len(q.layers)))
		asks = append(asks, q)
	}
	return append(asks, ruleAsk{}, ruleAsk{a: ring(), b: ring(), n: 1, layers: make([][]impl.Box, 3000), rules: make([]impl.Rule, 3000), name: "a"})
}

func TestEveryRuleAskIsAnswered(t *testing.T) {
	for _, q := range someAsks(1500) {
		roomed := q.roomed()
		kept := roomed.wholly().copied()
		for _, c := range ruleCalls() {
			got := c.call(roomed)
			if !got.same(c.call(roomed)) || !got.same(c.call(q.copied())) {
				t.Fatalf("%s of %s has two answers", c.name, brief(q))
			}
			if !roomed.wholly().same(kept) {
				t.Fatalf("%s changed what it was given, %s", c.name, brief(q))
			}
		}
	}
}

func TestZeroBesideACodeOfRules(t *testing.T) {
	for _, q := range someAsks(1500) {
		for _, c := range ruleCalls() {
			got := c.call(q)
			wrong := got.shape.Code != impl.OK && len(got.shape.Boxes) > 0 || got.parts.Code != impl.OK && len(got.parts.Parts) > 0 || got.flaws.Code != impl.OK && len(got.flaws.Flaws) > 0
			if wrong {
				t.Errorf("%s of %s has a code, and boxes", c.name, brief(q))
			}
			for _, list := range got.lists() {
				if impl.ShapeFault(list) != impl.OK {
					t.Errorf("%s of %s answers %s, which has a fault", c.name, brief(q), brief(list))
				}
			}
			for _, f := range got.flaws.Flaws {
				if len(f.Boxes) == 0 {
					t.Errorf("%s of %s tells a rule without a cell", c.name, brief(q))
				}
			}
		}
	}
}

func TestRulesAnswerNewMemory(t *testing.T) {
	for _, q := range someAsks(600) {
		for _, c := range ruleCalls() {
			roomed := q.roomed()
			kept := roomed.wholly().copied()
			first, second, third := c.call(roomed), c.call(roomed), c.call(q.copied())
			first.scribble()
			if !roomed.wholly().same(kept) {
				t.Fatalf("an answer of %s, %s, has memory of what was given", c.name, brief(q))
			}
			if !second.same(third) || !c.call(roomed).same(third) {
				t.Fatalf("two answers of %s, %s, share memory", c.name, brief(q))
			}
			roomed.scribble()
			if !second.same(third) {
				t.Fatalf("an answer of %s, %s, hangs on what was given", c.name, brief(q))
			}
		}
	}
}

// The lists of one answer: what is put into one, or behind it, is not seen in another.
func TestListsOfOneRuleAnswerAreApart(t *testing.T) {
	many := 0
	for _, q := range append(someAsks(600), ruleAsk{a: boxesApart(20, 0), layers: checkedLayers(), rules: longer(rules(rule(impl.RuleNear, 1, 0, 2), rule(impl.RuleThin, 0, 0, 4)), 20)}) {
		for _, c := range ruleCalls() {
			for i := range c.call(q).lists() {
				got, want := c.call(q).lists(), c.call(q).lists()
				scribble(got[i])
				got[i] = want[i]
				if !sameParts(parts(got...), parts(want...)) {
					t.Fatalf("list %d of an answer of %s, %s, is another one, too", i, c.name, brief(q))
				}
				many = max(many, len(got))
			}
		}
	}
	if many < 20 {
		t.Errorf("the longest answer has %d lists", many)
	}
}

func TestNoRuleIsNoRule(t *testing.T) {
	for _, n := range sizeEdges() {
		bare := ruleAsk{n: n, name: "a", cells: []impl.Cell{{Name: "a"}}}
		empty := ruleAsk{a: []impl.Box{}, b: []impl.Box{}, n: n, layers: [][]impl.Box{}, rules: []impl.Rule{}, cells: []impl.Cell{{Name: "a", Boxes: []impl.LBox{}, Places: []impl.Place{}}}, name: "a"}
		for _, c := range ruleCalls() {
			if !c.call(bare).same(c.call(empty)) {
				t.Errorf("%s with %d: nil and an empty list differ", c.name, n)
			}
		}
	}
	asked := rules(rule(impl.RuleThin, 0, 0, 2), rule(impl.RuleCover, 1, 0, 2))
	checkFlaws(t, "layers without boxes", impl.CheckRules([][]impl.Box{nil, {}}, asked), impl.CheckRules([][]impl.Box{{}, nil}, asked))
}
