package tests

import (
	"math"
	"testing"

	"loop.example/g00057/impl"
)

// shapeWord is one of the four words, with what it says of a cell.
type shapeWord struct {
	name string
	op   int64
	says func(a bool, b bool) bool
}

func shapeWords() []shapeWord {
	return []shapeWord{
		{"join", impl.ShapeJoin, func(a bool, b bool) bool { return a || b }},
		{"meet", impl.ShapeMeet, func(a bool, b bool) bool { return a && b }},
		{"less", impl.ShapeLess, func(a bool, b bool) bool { return a && !b }},
		{"either", impl.ShapeEither, func(a bool, b bool) bool { return a != b }},
	}
}

func (w shapeWord) of(a cellSet, b cellSet) cellSet {
	return func(x int64, y int64) bool { return w.says(a(x, y), b(x, y)) }
}

func (w shapeWord) want(a []impl.Box, b []impl.Box) impl.ShapeResult {
	xs, ys := placesOf(0, a, b)
	return shapeWant(formOf(w.of(cellsOf(a), cellsOf(b)), xs, ys))
}

func TestWordsCellByCell(t *testing.T) {
	for one := range 1 << 6 {
		for other := range 1 << 6 {
			a, b := formOfBoxes(unitBoxes(one, 3, 6)), formOfBoxes(unitBoxes(other, 3, 6))
			for _, w := range shapeWords() {
				got := impl.CombineShapes(w.op, a, b)
				want := formOf(w.of(cellsOf(a), cellsOf(b)), placesFrom(-1, 4), placesFrom(-1, 3))
				if !sameShape(got, shapeWant(want)) {
					t.Fatalf("%s of %v and %v: %v, want %v", w.name, a, b, got, want)
				}
			}
		}
	}
}

func TestWordsOfGreaterShapes(t *testing.T) {
	shapes := someShapes(60, 9)
	for i, a := range shapes {
		for _, b := range shapes[i/2:] {
			for _, w := range shapeWords() {
				checkShape(t, w.name, impl.CombineShapes(w.op, a, b), w.want(a, b))
			}
		}
	}
}

func TestWordsAtTheEdges(t *testing.T) {
	const m = impl.MaxPlace
	all, none := boxes(box(-m, -m, m, m)), boxes()
	left, right := boxes(box(0, 0, 2, 2)), boxes(box(2, 0, 4, 2))
	above, corner, apart := boxes(box(0, 2, 2, 4)), boxes(box(2, 2, 3, 3)), boxes(box(7, 7, 8, 8))
	within := boxes(box(1, 1, 2, 2))
	cases := []struct {
		op   int64
		a, b []impl.Box
		want []impl.Box
	}{
		{impl.ShapeJoin, left, right, boxes(box(0, 0, 4, 2))},
		{impl.ShapeJoin, left, above, boxes(box(0, 0, 2, 4))},
		{impl.ShapeJoin, left, corner, boxes(box(0, 0, 2, 2), box(2, 2, 3, 3))},
		{impl.ShapeJoin, left, apart, boxes(box(0, 0, 2, 2), box(7, 7, 8, 8))},
		{impl.ShapeJoin, left, within, left},
		{impl.ShapeJoin, none, none, nil},
		{impl.ShapeJoin, none, left, left},
		{impl.ShapeMeet, left, right, nil},
		{impl.ShapeMeet, left, corner, nil},
		{impl.ShapeMeet, left, within, within},
		{impl.ShapeMeet, all, ring(), ring()},
		{impl.ShapeMeet, all, none, nil},
		{impl.ShapeLess, left, right, left},
		{impl.ShapeLess, left, within, boxes(box(0, 0, 2, 1), box(0, 1, 1, 2))},
		{impl.ShapeLess, within, left, nil},
		{impl.ShapeLess, none, left, nil},
		{impl.ShapeLess, left, none, left},
		{impl.ShapeLess, all, all, nil},
		{impl.ShapeLess, boxes(box(0, 0, 3, 3)), within, ring()},
		{impl.ShapeEither, ring(), within, boxes(box(0, 0, 3, 3))},
		{impl.ShapeEither, ring(), ring(), nil},
		{impl.ShapeEither, left, boxes(box(1, 0, 3, 2)), boxes(box(0, 0, 1, 2), box(2, 0, 3, 2))},
		{impl.ShapeEither, none, right, right},
	}
	for _, c := range cases {
		checkShape(t, "at the edges", impl.CombineShapes(c.op, c.a, c.b), impl.ShapeResult{Boxes: c.want})
	}
}

func TestNoOtherWord(t *testing.T) {
	far := boxes(box(0, 0, 20000, 1))
	for _, op := range []int64{0, 5, 6, -1, -2, 1 << 32, 1<<32 + 1, math.MinInt64, math.MinInt64 + 1, math.MaxInt64} {
		checkShape(t, "no word", impl.CombineShapes(op, ring(), nil), shapeCode(impl.ErrForm))
		checkShape(t, "no word, and a fault", impl.CombineShapes(op, far, boxesApart(200, 0)), shapeCode(impl.ErrForm))
	}
}

func TestFaultsOfTwoShapes(t *testing.T) {
	far, many, twice := boxes(box(0, 0, 20000, 1)), boxesApart(impl.MaxBoxes+1, 0), boxes(box(0, 0, 1, 1), box(0, 0, 1, 1))
	cases := []struct {
		a, b []impl.Box
		want int64
	}{
		{far, many, impl.ErrRange}, {many, far, impl.ErrMany}, {twice, far, impl.ErrForm}, {far, twice, impl.ErrRange},
		{ring(), far, impl.ErrRange}, {ring(), many, impl.ErrMany}, {ring(), twice, impl.ErrForm},
		{far, ring(), impl.ErrRange}, {many, nil, impl.ErrMany}, {twice, nil, impl.ErrForm}, {nil, twice, impl.ErrForm},
	}
	for _, c := range cases {
		for _, w := range shapeWords() {
			checkShape(t, w.name, impl.CombineShapes(w.op, c.a, c.b), shapeCode(c.want))
		}
	}
}

// stripes are n bars upward, from 0 to that height.
func stripes(n int64, top int64) []impl.Box {
	var list []impl.Box
	for i := range n {
		list = append(list, box(2*i, 0, 2*i+1, top))
	}
	return list
}

func TestWordsWithTooManyBoxes(t *testing.T) {
	tall := boxes(box(0, -5, 1, 1000))
	twoRows := boxes(box(0, 1, 200, 2), box(0, 3, 200, 4))
	cases := []struct {
		name string
		op   int64
		a, b []impl.Box
		many bool
	}{
		{"join", impl.ShapeJoin, boxesApart(100, 0), boxesApart(50, 1000), false},
		{"join", impl.ShapeJoin, boxesApart(100, 0), boxesApart(51, 1000), true},
		{"meet", impl.ShapeMeet, stripes(75, 9), twoRows, false},
		{"meet", impl.ShapeMeet, stripes(75, 9), append(twoRows, box(4, 5, 5, 6)), true},
		{"less", impl.ShapeLess, tall, boxesApart(149, 0), false},
		{"less", impl.ShapeLess, tall, boxesApart(150, 0), true},
		{"either", impl.ShapeEither, tall, boxesApart(149, 0), false},
		{"either", impl.ShapeEither, tall, boxesApart(150, 0), true},
	}
	for _, c := range cases {
		got := impl.CombineShapes(c.op, c.a, c.b)
		if c.many {
			checkShape(t, c.name, got, shapeCode(impl.ErrMany))
		} else if got.Code != impl.OK || len(got.Boxes) != impl.MaxBoxes {
			t.Errorf("%s: code %d, %d boxes, want %d", c.name, got.Code, len(got.Boxes), impl.MaxBoxes)
		}
	}
}

func areaOf(t *testing.T, s []impl.Box) int64 {
	t.Helper()
	area := impl.AreaOf(s)
	if area.Code != impl.OK {
		t.Fatalf("the area of %v has the code %d", s, area.Code)
	}
	return area.Value
}

func TestAreasAddUp(t *testing.T) {
	shapes := someShapes(50, 7)
	for _, a := range shapes {
		for _, b := range shapes {
			part := map[int64]int64{}
			for _, w := range shapeWords() {
				part[w.op] = areaOf(t, impl.CombineShapes(w.op, a, b).Boxes)
			}
			back := areaOf(t, impl.CombineShapes(impl.ShapeLess, b, a).Boxes)
			both := areaOf(t, a) + areaOf(t, b)
			if part[impl.ShapeJoin]+part[impl.ShapeMeet] != both {
				t.Fatalf("%v and %v: joined and met they have %v, the two %d", a, b, part, both)
			}
			if part[impl.ShapeLess]+back != part[impl.ShapeEither] || part[impl.ShapeEither]+2*part[impl.ShapeMeet] != both {
				t.Fatalf("%v and %v: %v, the other way round %d, the two %d", a, b, part, back, both)
			}
		}
	}
}

func TestAreas(t *testing.T) {
	cases := []struct {
		s    []impl.Box
		want impl.ShapeInt
	}{
		{nil, impl.ShapeInt{}},
		{boxes(box(0, 0, 1, 1)), impl.ShapeInt{Value: 1}},
		{boxes(box(-3, 2, 4, 5)), impl.ShapeInt{Value: 21}},
		{ring(), impl.ShapeInt{Value: 8}},
		{boxes(box(-10000, -10000, 10000, 10000)), impl.ShapeInt{Value: 400000000}},
		{boxesApart(impl.MaxBoxes, 0), impl.ShapeInt{Value: impl.MaxBoxes}},
		{boxesApart(impl.MaxBoxes+1, 0), impl.ShapeInt{Code: impl.ErrMany}},
		{boxes(box(0, 0, 0, 1)), impl.ShapeInt{Code: impl.ErrForm}},
		{boxes(box(0, 0, 10001, 1)), impl.ShapeInt{Code: impl.ErrRange}},
		{boxes(box(0, 0, 1, 1), box(1, 0, 2, 1)), impl.ShapeInt{Code: impl.ErrForm}},
	}
	for _, c := range cases {
		if got := impl.AreaOf(c.s); got != c.want {
			t.Errorf("AreaOf(%.200v) = %v, want %v", c.s, got, c.want)
		}
	}
}

func TestCellsInAndOut(t *testing.T) {
	for _, s := range someShapes(60, 6) {
		in, cells := cellsOf(s), int64(0)
		for x := int64(-8); x <= 8; x++ {
			for y := int64(-8); y <= 8; y++ {
				if in(x, y) {
					cells++
				}
				if impl.InShape(s, x, y) != in(x, y) {
					t.Fatalf("InShape(%v, %d, %d) = %t", s, x, y, !in(x, y))
				}
			}
		}
		if got := areaOf(t, s); got != cells {
			t.Fatalf("AreaOf(%v) = %d, want %d", s, got, cells)
		}
	}
}

func TestCellsAtTheEdges(t *testing.T) {
	const m = impl.MaxPlace
	all := boxes(box(-m, -m, m, m))
	for _, x := range append(edgePlaces(), m-1) {
		for _, y := range append(edgePlaces(), m-1) {
			want := x >= -m && x < m && y >= -m && y < m
			if impl.InShape(all, x, y) != want {
				t.Errorf("InShape of all places at %d, %d is %t", x, y, !want)
			}
			if impl.InShape(nil, x, y) {
				t.Errorf("none has the cell %d, %d", x, y)
			}
		}
	}
	faulty := [][]impl.Box{
		boxes(box(0, 0, 1, 1), box(1, 0, 2, 1)),
		boxes(box(0, 0, 1, 1), box(0, 0, 1, 1)),
		boxes(box(0, 0, 1, 1), box(0, 5, 20000, 6)),
		boxes(box(0, 0, 1, 1), box(0, 5, 0, 6)),
		boxesApart(impl.MaxBoxes+1, 0),
	}
	for _, s := range faulty {
		if impl.InShape(s, 0, 0) {
			t.Errorf("%.100v has a fault, and yet a cell", s)
		}
	}
}
