package tests

import (
	"slices"
	"testing"

	"loop.example/g00057/impl"
)

func parts(list ...[]impl.Box) impl.PartsResult {
	return impl.PartsResult{Parts: list}
}

func TestPartsCellByCell(t *testing.T) {
	for _, width := range []int{4, 3, 2, 6} {
		for bits := range 1 << 12 {
			s := formOfBoxes(unitBoxes(bits, width, 12))
			want := parts(partsAt(s, placesFrom(-1, 7), placesFrom(-1, 7))...)
			if got := impl.PartsOf(s); !sameParts(got, want) {
				t.Fatalf("PartsOf(%v) = %v, want %v", s, got, want)
			}
			for area := int64(1); area <= 13; area += 1 + area/4 {
				if got, want := impl.SmallOf(s, area), smallWant(s, area); !sameShape(got, want) {
					t.Fatalf("SmallOf(%v, %d) = %v, want %v", s, area, got, want)
				}
			}
		}
	}
}

func TestPartsOfGreaterShapes(t *testing.T) {
	for i, s := range someShapes(80, 9) {
		checkParts(t, "some shape", s, parts(partsAt(s, placesFrom(-10, 10), placesFrom(-10, 10))...))
		far := stretched(s, int64(1+i*37%1100), int64(1+i*91%1100))
		checkParts(t, "some far shape", far, partsWant(far))
		for _, area := range []int64{1, 2, 7, 30, 1000, 400000, 1000000, 30000000, 1000000000} {
			checkShape(t, "small", impl.SmallOf(s, area), smallWant(s, area))
			checkShape(t, "small of a far one", impl.SmallOf(far, area), smallWant(far, area))
		}
	}
}

func TestPartsOfManyBoxes(t *testing.T) {
	for i := range int64(40) {
		s := formOfBoxes(someBoxes(i, 40, 9+i))
		checkParts(t, "many boxes", s, partsWant(s))
		for _, area := range []int64{1, 2, 5, 12, 30, 200} {
			checkShape(t, "small of many", impl.SmallOf(s, area), smallWant(s, area))
		}
	}
}

func TestPartsByHand(t *testing.T) {
	const m = impl.MaxPlace
	left, right := boxes(box(0, 0, 1, 1)), boxes(box(2, 0, 3, 1))
	cases := []struct {
		name string
		s    []impl.Box
		want impl.PartsResult
	}{
		{"none", nil, parts()},
		{"one", left, parts(left)},
		{"two of one row", boxes(left[0], right[0]), parts(left, right)},
		{"at a corner alone", boxes(box(0, 0, 1, 1), box(1, 1, 2, 2)), parts(left, boxes(box(1, 1, 2, 2)))},
		{"at the other corner alone", boxes(box(1, 0, 2, 1), box(0, 1, 1, 2)), parts(boxes(box(1, 0, 2, 1)), boxes(box(0, 1, 1, 2)))},
		{"by one side of a cell", boxes(box(0, 0, 2, 1), box(1, 1, 9, 2)), parts(boxes(box(0, 0, 2, 1), box(1, 1, 9, 2)))},
		{"over a gap of one row", boxes(box(0, 0, 2, 1), box(0, 2, 2, 3)), parts(boxes(box(0, 0, 2, 1)), boxes(box(0, 2, 2, 3)))},
		{"a ring", ring(), parts(ring())},
		{"a dot in a frame", boxes(box(0, 0, 5, 1), box(0, 1, 1, 2), box(4, 1, 5, 2), box(0, 2, 1, 3), box(2, 2, 3, 3), box(4, 2, 5, 3), box(0, 3, 1, 4), box(4, 3, 5, 4), box(0, 4, 5, 5)),
			parts(frameFrom(0, 5), boxes(box(2, 2, 3, 3)))},
		{"a bar beside a low one", boxes(box(0, 0, 1, 2), box(4, 0, 5, 2), box(0, 2, 1, 9)), parts(boxes(box(0, 0, 1, 9)), boxes(box(4, 0, 5, 2)))},
		{"legs that are joined far above", boxes(box(0, 0, 1, 50), box(2, 0, 3, 50), box(4, 0, 5, 50), box(0, 50, 1, 90), box(4, 50, 5, 90), box(0, 90, 5, 91)),
			parts(boxes(box(0, 0, 1, 90), box(4, 0, 5, 90), box(0, 90, 5, 91)), boxes(box(2, 0, 3, 50)))},
		{"the lower one stands first, further right", boxes(box(7, 0, 8, 1), box(-5, 1, -4, 2), box(0, 3, 1, 4)), parts(boxes(box(7, 0, 8, 1)), boxes(box(-5, 1, -4, 2)), boxes(box(0, 3, 1, 4)))},
		{"the first one reaches furthest left above", boxes(box(3, 0, 4, 2), box(6, 0, 7, 2), box(-9, 2, 4, 3)), parts(boxes(box(3, 0, 4, 2), box(-9, 2, 4, 3)), boxes(box(6, 0, 7, 2)))},
		{"the second one is joined to the first", boxes(box(3, 0, 4, 2), box(6, 0, 7, 2), box(0, 2, 1, 3), box(3, 2, 7, 3)),
			parts(boxes(box(3, 0, 4, 2), box(6, 0, 7, 2), box(3, 2, 7, 3)), boxes(box(0, 2, 1, 3)))},
		{"all places", boxes(box(-m, -m, m, m)), parts(boxes(box(-m, -m, m, m)))},
		{"the outermost cells", boxes(box(-m, -m, -m+1, -m+1), box(m-1, m-1, m, m)), parts(boxes(box(-m, -m, -m+1, -m+1)), boxes(box(m-1, m-1, m, m)))},
	}
	for _, c := range cases {
		checkParts(t, c.name, c.s, c.want)
		checkParts(t, c.name+", by strips", c.s, partsWant(c.s))
	}
}

// Of six legs the last two are joined first, then each further one, from right to left, a step higher up.
func TestPartsThatAreJoinedStepByStep(t *testing.T) {
	var list []impl.Box
	for i := range int64(6) {
		list = append(list, box(2*i, 0, 2*i+1, 40))
	}
	for i := range int64(5) {
		list = append(list, box(8-2*i, 5+2*i, 11-2*i, 6+2*i))
	}
	s := formOfBoxes(list)
	checkParts(t, "a staircase between legs", s, parts(s))
	for missing := 6; missing < 11; missing++ {
		apart := formOfBoxes(slices.Delete(slices.Clone(list), missing, missing+1))
		checkParts(t, "a staircase with a step missing", apart, partsWant(apart))
		if got := impl.PartsOf(apart); len(got.Parts) != 2 || got.Parts[0][0].X0 != 0 {
			t.Errorf("a staircase with a step missing has %d parts", len(got.Parts))
		}
	}
}

func TestAsManyPartsAsMayBe(t *testing.T) {
	full := boxesApart(impl.MaxBoxes, -impl.MaxPlace)
	got := impl.PartsOf(full)
	if got.Code != impl.OK || len(got.Parts) != impl.MaxBoxes {
		t.Fatalf("code %d, %d parts", got.Code, len(got.Parts))
	}
	for i, part := range got.Parts {
		checkShape(t, "a part", impl.ShapeResult{Boxes: part}, impl.ShapeResult{Boxes: full[i : i+1]})
	}
	checkParts(t, "one more", boxesApart(impl.MaxBoxes+1, 0), impl.PartsResult{Code: impl.ErrMany})
	rungs := impl.ShapeOf(ladder(75, 1, 0)).Boxes
	checkParts(t, "one part of as many boxes", rungs, parts(rungs))
	checkShape(t, "all are small", impl.SmallOf(full, 2), impl.ShapeResult{Boxes: full})
	checkShape(t, "none is small", impl.SmallOf(full, 1), impl.ShapeResult{})
	checkShape(t, "the ladder is small", impl.SmallOf(rungs, cellCount(rungs)+1), impl.ShapeResult{Boxes: rungs})
	checkShape(t, "the ladder is not small", impl.SmallOf(rungs, cellCount(rungs)), impl.ShapeResult{})
}

func TestFaultsAheadOfParts(t *testing.T) {
	for code, s := range faultyShapes() {
		checkParts(t, "a fault", s, impl.PartsResult{Code: code})
		for _, area := range sizeEdges() {
			checkShape(t, "a fault", impl.SmallOf(s, area), shapeCode(code))
		}
	}
	for _, s := range wildLists() {
		checkParts(t, "any list", s, partsWant(s))
	}
}

func TestAreasOfSmallParts(t *testing.T) {
	for _, s := range append(someShapes(10, 6), ring()) {
		for _, area := range sizeEdges() {
			checkShape(t, "some area", impl.SmallOf(s, area), smallWant(s, area))
			if got := impl.SmallOf(s, area); (got.Code == impl.ErrRange) != (area < 1 || area > 1000000000) {
				t.Errorf("SmallOf with %d has the code %d", area, got.Code)
			}
		}
	}
}

func TestSmallByHand(t *testing.T) {
	const m = impl.MaxPlace
	all := boxes(box(-m, -m, m, m))
	// A bar of 9 cells, beside a square of 4 and over a dot: with one gone, the bands of the others come together.
	bar, square, dot := box(0, 0, 1, 9), box(3, 2, 5, 4), box(0, 11, 1, 12)
	s := formOfBoxes(boxes(bar, square, dot))
	cases := []struct {
		name string
		s    []impl.Box
		area int64
		want []impl.Box
	}{
		{"none", nil, 1, nil}, {"none, the most", nil, 1000000000, nil},
		{"one cell, 1", boxes(dot), 1, nil}, {"one cell, 2", boxes(dot), 2, boxes(dot)},
		{"no part", s, 1, nil}, {"the dot", s, 2, boxes(dot)}, {"the dot, at the square", s, 4, boxes(dot)},
		{"dot and square", s, 5, boxes(square, dot)}, {"dot and square, at the bar", s, 9, boxes(square, dot)}, {"all parts", s, 10, s}, {"all parts, the most", s, 1000000000, s},
		{"a ring counts without its hole", ring(), 8, nil}, {"a ring counts without its hole, 9", ring(), 9, ring()},
		{"corners do not join", boxes(box(0, 0, 2, 2), box(2, 2, 4, 4)), 5, boxes(box(0, 0, 2, 2), box(2, 2, 4, 4))},
		{"all places, at them", all, 400000000, nil}, {"all places, one above", all, 400000001, all}, {"all places, the most", all, 1000000000, all},
	}
	for _, c := range cases {
		checkShape(t, "SmallOf, "+c.name, impl.SmallOf(c.s, c.area), impl.ShapeResult{Boxes: c.want})
	}
}

// The rims of parts that touch nowhere add up to the rim of the shape.
func TestPartsAreApartAndTogetherTheShape(t *testing.T) {
	for i, s := range append(someShapes(80, 9), ring(), ladder(3, 0, 0)[:1], boxesApart(40, 0), twoColumns(20, 0)) {
		got := impl.PartsOf(s)
		var whole []impl.Box
		cells, rim := int64(0), int64(0)
		for n, part := range got.Parts {
			if impl.ShapeFault(part) != impl.OK || len(part) == 0 {
				t.Fatalf("part %d of shape %d, %s, has a fault or no cell", n, i, brief(part))
			}
			checkParts(t, "one part", part, parts(part))
			checkShape(t, "a part that is new", impl.CombineShapes(impl.ShapeMeet, whole, part), impl.ShapeResult{})
			whole = impl.CombineShapes(impl.ShapeJoin, whole, part).Boxes
			cells += areaOf(t, part)
			rim += impl.RimOf(part).Value
		}
		checkShape(t, "together", impl.ShapeResult{Boxes: whole}, impl.ShapeResult{Boxes: s})
		if cells != areaOf(t, s) || rim != impl.RimOf(s).Value {
			t.Errorf("the parts of %s have %d cells and the rim %d", brief(s), cells, rim)
		}
	}
}
