package tests

import (
	"slices"
	"testing"

	"loop.example/g00057/impl"
)

// shapeCall is a function of chapter 2 that takes shapes; each takes what it needs of the arguments.
type shapeCall struct {
	name string
	call func(a []impl.Box, b []impl.Box, n int64, m int64) impl.ShapeResult
}

func ofInt(r impl.ShapeInt) impl.ShapeResult {
	return impl.ShapeResult{Code: r.Code, Boxes: boxes(box(r.Value, 0, 0, 0))}
}

// shapeCalls answer boxes; what answers a number or a word is told in the X0 of one box.
func shapeCalls() []shapeCall {
	return []shapeCall{
		{"ShapeOf", func(a []impl.Box, _ []impl.Box, _ int64, _ int64) impl.ShapeResult { return impl.ShapeOf(a) }},
		{"CombineShapes", func(a []impl.Box, b []impl.Box, n int64, _ int64) impl.ShapeResult {
			return impl.CombineShapes(n, a, b)
		}},
		{"CombineShapes join", func(a []impl.Box, b []impl.Box, _ int64, _ int64) impl.ShapeResult {
			return impl.CombineShapes(impl.ShapeJoin, a, b)
		}},
		{"CombineShapes less", func(a []impl.Box, b []impl.Box, _ int64, _ int64) impl.ShapeResult {
			return impl.CombineShapes(impl.ShapeLess, a, b)
		}},
		{"GrowShape", func(a []impl.Box, _ []impl.Box, n int64, _ int64) impl.ShapeResult { return impl.GrowShape(a, n) }},
		{"MoveShape", func(a []impl.Box, _ []impl.Box, n int64, m int64) impl.ShapeResult { return impl.MoveShape(a, n, m) }},
		{"TurnShape", func(a []impl.Box, _ []impl.Box, n int64, _ int64) impl.ShapeResult { return impl.TurnShape(a, n) }},
		{"BoundsOf", func(a []impl.Box, _ []impl.Box, _ int64, _ int64) impl.ShapeResult { return impl.BoundsOf(a) }},
	}
}

func numberCalls() []shapeCall {
	return []shapeCall{
		{"ShapeFault", func(a []impl.Box, _ []impl.Box, _ int64, _ int64) impl.ShapeResult {
			return shapeCode(impl.ShapeFault(a))
		}},
		{"AreaOf", func(a []impl.Box, _ []impl.Box, _ int64, _ int64) impl.ShapeResult { return ofInt(impl.AreaOf(a)) }},
		{"RimOf", func(a []impl.Box, _ []impl.Box, _ int64, _ int64) impl.ShapeResult { return ofInt(impl.RimOf(a)) }},
		{"InShape", func(a []impl.Box, _ []impl.Box, n int64, m int64) impl.ShapeResult {
			if impl.InShape(a, n, m) {
				return ofInt(impl.ShapeInt{Value: 1})
			}
			return ofInt(impl.ShapeInt{})
		}},
	}
}

// roomy is a list with room behind its end, which no call may write into.
func roomy(list []impl.Box) []impl.Box {
	room := append(slices.Clone(list), slices.Repeat(boxes(box(-77, -77, 77, 77)), 40)...)
	return room[:len(list)]
}

func whole(list []impl.Box) []impl.Box {
	return list[:cap(list)]
}

func TestEveryListIsAnswered(t *testing.T) {
	lists, edges := wildLists(), edgePlaces()
	for i, list := range lists {
		a, b := roomy(list), roomy(lists[(i*7+3)%len(lists)])
		keptA, keptB := slices.Clone(whole(a)), slices.Clone(whole(b))
		for j, n := range edges {
			m := edges[(i+j*5)%len(edges)]
			for _, c := range append(shapeCalls(), numberCalls()...) {
				got := c.call(a, b, n, m)
				if !sameShape(got, c.call(a, b, n, m)) || !sameShape(got, c.call(slices.Clone(a), slices.Clone(b), n, m)) {
					t.Fatalf("%s of %.200v, %.200v, %d, %d has two answers", c.name, a, b, n, m)
				}
				if !slices.Equal(whole(a), keptA) || !slices.Equal(whole(b), keptB) {
					t.Fatalf("%s of %.200v, %.200v, %d, %d changed a list", c.name, a, b, n, m)
				}
			}
		}
	}
}

func TestCodesOfEveryList(t *testing.T) {
	for _, list := range wildLists() {
		fault := shapeFaultWant(list)
		if got := impl.ShapeFault(list); got != fault {
			t.Errorf("ShapeFault(%.200v) = %d, want %d", list, got, fault)
		}
		for _, c := range append(shapeCalls()[1:], numberCalls()[1:3]...) {
			// With a right word and small numbers the first thing that can be wrong is the first list.
			if got := c.call(list, nil, 1, 0); fault != impl.OK && got.Code != fault {
				t.Errorf("%s of %.200v has the code %d, want %d", c.name, list, got.Code, fault)
			}
		}
		if code := boxesFaultWant(list); code != impl.OK {
			checkShape(t, "ShapeOf", impl.ShapeOf(list), shapeCode(code))
		} else {
			checkShape(t, "ShapeOf", impl.ShapeOf(list), shapeWant(formOfBoxes(list)))
		}
	}
}

func TestZeroBesideACode(t *testing.T) {
	lists, edges := wildLists(), edgePlaces()
	for i, list := range lists {
		other := lists[(i*11+5)%len(lists)]
		for _, n := range append(edges, 2, 3, 4) {
			for _, c := range shapeCalls() {
				got := c.call(list, other, n, n)
				if got.Code != impl.OK && len(got.Boxes) > 0 {
					t.Errorf("%s of %.100v has the code %d, and boxes", c.name, list, got.Code)
				}
				if got.Code == impl.OK && impl.ShapeFault(got.Boxes) != impl.OK {
					t.Errorf("%s of %.100v answers %.100v, which has a fault", c.name, list, got.Boxes)
				}
			}
		}
		if r := impl.AreaOf(list); r.Code != impl.OK && r.Value != 0 {
			t.Errorf("AreaOf(%.100v) = %v", list, r)
		}
		if r := impl.RimOf(list); r.Code != impl.OK && r.Value != 0 {
			t.Errorf("RimOf(%.100v) = %v", list, r)
		}
	}
}

func scribble(list []impl.Box) {
	for i := range list[:cap(list)] {
		list[:cap(list)][i] = box(-5, -6, -7, -8)
	}
}

func TestShapesAreNewMemory(t *testing.T) {
	for _, s := range append(someShapes(20, 8), ring(), boxesApart(40, 0)) {
		for _, n := range []int64{0, 1, 2, 4, -1} {
			for _, c := range shapeCalls() {
				a, b := roomy(s), roomy(ring())
				first, second := c.call(a, b, n, 0), c.call(a, b, n, 0)
				kept := slices.Clone(second.Boxes)
				scribble(first.Boxes)
				if !slices.Equal(a, s) || !slices.Equal(b, ring()) || a[:len(a)+1][len(a)] != box(-77, -77, 77, 77) {
					t.Fatalf("%s of %v by %d answers memory of its argument", c.name, s, n)
				}
				if !slices.Equal(second.Boxes, kept) || !slices.Equal(c.call(a, b, n, 0).Boxes, kept) {
					t.Fatalf("%s of %v by %d: two answers share memory", c.name, s, n)
				}
				scribble(a)
				scribble(b)
				if !slices.Equal(second.Boxes, kept) {
					t.Fatalf("%s of %v by %d: an answer hangs on its argument's memory", c.name, s, n)
				}
			}
		}
	}
}

func TestNoneIsNone(t *testing.T) {
	for _, c := range append(shapeCalls(), numberCalls()...) {
		for _, n := range edgePlaces() {
			if !sameShape(c.call(nil, nil, n, n), c.call([]impl.Box{}, []impl.Box{}, n, n)) {
				t.Errorf("%s by %d: nil and an empty list differ", c.name, n)
			}
		}
	}
}
