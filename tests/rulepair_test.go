package tests

import (
	"slices"
	"testing"

	"loop.example/g00057/impl"
)

// coverCells looks at every cell that is no further than by from one of inner, and is not one of outer.
func coverCells(inner []impl.Box, outer []impl.Box, by int64) cellSet {
	grown, out := near(cellsOf(inner), by, true), cellsOf(outer)
	return func(x int64, y int64) bool { return grown(x, y) && !out(x, y) }
}

func apartCells(a []impl.Box, b []impl.Box, by int64) cellSet {
	grown, other := near(cellsOf(a), by, true), cellsOf(b)
	return func(x int64, y int64) bool { return other(x, y) && grown(x, y) }
}

func formIn(in cellSet, frame int64) impl.ShapeResult {
	return shapeWant(formOf(in, placesFrom(-frame, frame), placesFrom(-frame, frame)))
}

func checkPair(t *testing.T, a []impl.Box, b []impl.Box, by int64, frame int64) {
	t.Helper()
	if got, want := impl.CoverOf(a, b, by), formIn(coverCells(a, b, by), frame); !sameShape(got, want) {
		t.Fatalf("CoverOf(%v, %v, %d) = %v, want %v", a, b, by, got, want)
	}
	if got, want := impl.ApartOf(a, b, by), formIn(apartCells(a, b, by), frame); !sameShape(got, want) {
		t.Fatalf("ApartOf(%v, %v, %d) = %v, want %v", a, b, by, got, want)
	}
}

func TestPairsCellByCell(t *testing.T) {
	for one := range 1 << 6 {
		for other := range 1 << 6 {
			a, b := formOfBoxes(unitBoxes(one, 3, 6)), formOfBoxes(unitBoxes(other, 2, 6))
			for by := range int64(2) {
				checkPair(t, a, b, by, 4)
			}
		}
	}
}

func TestPairsOfGreaterShapes(t *testing.T) {
	shapes := someShapes(24, 7)
	for i, a := range shapes {
		for j, b := range shapes {
			by := int64(i+j) % 5
			checkPair(t, a, b, by, 12)
			checkShape(t, "covered", coverWant(a, b, by), formIn(coverCells(a, b, by), 12))
			checkShape(t, "apart", apartWant(a, b, by), formIn(apartCells(a, b, by), 12))
		}
	}
}

func TestPairsOfFarShapes(t *testing.T) {
	shapes := someShapes(40, 9)
	met := map[int64]int{}
	for i, s := range shapes {
		a := stretched(s, int64(1+i*37%1100), int64(1+i*91%1100))
		b := stretched(shapes[(i*7+3)%len(shapes)], int64(1+i*53%1100), int64(1+i*71%1100))
		for _, by := range []int64{0, 1, 30, 500, 999, 1000} {
			want := coverWant(a, b, by)
			met[want.Code]++
			checkShape(t, "covered", impl.CoverOf(a, b, by), want)
			checkShape(t, "apart", impl.ApartOf(a, b, by), apartWant(a, b, by))
		}
	}
	if met[impl.OK] < 5 || met[impl.ErrRange] < 5 {
		t.Errorf("the codes are %v: the shapes do not ask for all of them", met)
	}
}

type pairCase struct {
	name string
	a, b []impl.Box
	by   int64
	want []impl.Box
}

func TestCoverByHand(t *testing.T) {
	const m, g = impl.MaxPlace, impl.MaxGrow
	all, dot, square := boxes(box(-m, -m, m, m)), boxes(box(3, 3, 4, 4)), boxes(box(0, 0, 7, 7))
	inner := boxes(box(-m+g, -m+g, m-g, m-g))
	cases := []pairCase{
		{"none in none", nil, nil, 0, nil}, {"none in none, the most", nil, nil, g, nil}, {"none in one", nil, square, 5, nil},
		{"one in none", dot, nil, 0, dot}, {"one in none, by 1", dot, nil, 1, boxes(box(2, 2, 5, 5))},
		{"itself, by 0", ring(), ring(), 0, nil}, {"itself, by 1", dot, dot, 1, boxes(box(2, 2, 5, 3), box(2, 3, 3, 4), box(4, 3, 5, 4), box(2, 4, 5, 5))},
		{"just covered", dot, square, 3, nil}, {"one too little", dot, square, 4, frameFrom(-1, 8)},
		{"covered but for a hole", boxes(box(0, 0, 3, 3)), ring(), 0, boxes(box(1, 1, 2, 2))},
		{"short on the right alone", boxes(box(1, 1, 6, 3)), square, 1, nil}, {"short on the right alone, by 2", boxes(box(2, 2, 6, 5)), square, 2, boxes(box(7, 0, 8, 7))},
		{"short above alone", boxes(box(2, 2, 5, 6)), square, 2, boxes(box(0, 7, 7, 8))},
		{"short to the left alone", boxes(box(1, 2, 5, 5)), square, 2, boxes(box(-1, 0, 0, 7))}, {"short below alone", boxes(box(2, 1, 5, 5)), square, 2, boxes(box(0, -1, 7, 0))},
		{"the most, up to the places", inner, all, g, nil}, {"the most, up to the places, itself", inner, inner, g, frameOfBoxes(all[0], inner[0])},
		{"all places, by 0", all, all, 0, nil}, {"all places, in none", all, nil, 0, all},
		{"apart from one another", dot, boxes(box(50, 50, 60, 60)), 1, boxes(box(2, 2, 5, 5))},
	}
	for _, c := range cases {
		checkShape(t, "CoverOf, "+c.name, impl.CoverOf(c.a, c.b, c.by), impl.ShapeResult{Boxes: c.want})
	}
}

// frameOfBoxes is what a box has around another one that lies within it, apart from its sides.
func frameOfBoxes(out impl.Box, in impl.Box) []impl.Box {
	return boxes(box(out.X0, out.Y0, out.X1, in.Y0), box(out.X0, in.Y0, in.X0, in.Y1), box(in.X1, in.Y0, out.X1, in.Y1), box(out.X0, in.Y1, out.X1, out.Y1))
}

// frameFrom is the rim, one cell wide, of a square.
func frameFrom(least int64, most int64) []impl.Box {
	return frameOfBoxes(box(least, least, most, most), box(least+1, least+1, most-1, most-1))
}

func TestApartByHand(t *testing.T) {
	const m, g = impl.MaxPlace, impl.MaxGrow
	all, dot, wide := boxes(box(-m, -m, m, m)), boxes(box(0, 0, 1, 1)), boxes(box(3, -9, 20, 9))
	cases := []pairCase{
		{"none and none", nil, nil, 0, nil}, {"none and none, the most", nil, nil, g, nil}, {"none and one", nil, dot, 5, nil}, {"one and none", dot, nil, 5, nil},
		{"itself, by 0", ring(), ring(), 0, ring()}, {"itself, by 5", ring(), ring(), 5, ring()},
		{"two cells off, by 2", dot, wide, 2, nil}, {"two cells off, by 3", dot, wide, 3, boxes(box(3, -3, 4, 4))}, {"two cells off, by 4", dot, wide, 4, boxes(box(3, -4, 5, 5))},
		{"side by side, by 0", dot, boxes(box(1, 0, 2, 1)), 0, nil}, {"side by side, by 1", dot, boxes(box(1, 0, 2, 1)), 1, boxes(box(1, 0, 2, 1))},
		{"at a corner, by 0", dot, boxes(box(1, 1, 3, 3)), 0, nil}, {"at a corner, by 1", dot, boxes(box(1, 1, 3, 3)), 1, boxes(box(1, 1, 2, 2))},
		{"over one another, by 0", boxes(box(0, 0, 4, 4)), boxes(box(2, 2, 9, 9)), 0, boxes(box(2, 2, 4, 4))},
		{"the hole and what fills it, by 0", ring(), boxes(box(1, 1, 2, 2)), 0, nil}, {"the hole and what fills it, by 1", ring(), boxes(box(1, 1, 2, 2)), 1, boxes(box(1, 1, 2, 2))},
		{"the most", dot, all, g, boxes(box(-g, -g, g+1, g+1))}, {"the most, just too far", dot, boxes(box(g+1, 0, g+2, 1)), g, nil}, {"the most, just near", dot, boxes(box(g, 0, g+2, 1)), g, boxes(box(g, 0, g+1, 1))},
		{"all places", all, all, 0, all}, {"all places and a dot", all, dot, 0, dot},
	}
	for _, c := range cases {
		checkShape(t, "ApartOf, "+c.name, impl.ApartOf(c.a, c.b, c.by), impl.ShapeResult{Boxes: c.want})
	}
	// What is near of b is not what is near of a.
	checkShape(t, "the other way round", impl.ApartOf(wide, dot, 3), impl.ShapeResult{Boxes: dot})
}

func TestCodesOfPairs(t *testing.T) {
	shapes := [][]impl.Box{nil, ring(), boxesApart(5, 0)}
	for _, code := range []int64{impl.ErrMany, impl.ErrRange, impl.ErrForm} {
		shapes = append(shapes, faultyShapes()[code])
	}
	for _, a := range shapes {
		for _, b := range shapes {
			for _, by := range sizeEdges() {
				want := shapeFaultWant(a)
				if want == impl.OK {
					want = sizeWant(b, by, 0, 1000)
				}
				cover, apart := impl.CoverOf(a, b, by), impl.ApartOf(a, b, by)
				if cover.Code != want || apart.Code != want {
					t.Errorf("%s and %s by %d: cover %d, apart %d, want %d", brief(a), brief(b), by, cover.Code, apart.Code, want)
				}
				if want != impl.OK && len(cover.Boxes)+len(apart.Boxes) > 0 {
					t.Errorf("%s and %s by %d: the code %d, and boxes", brief(a), brief(b), by, want)
				}
			}
		}
	}
}

// What is grown may leave the places, though no cell beyond them could be told.
func TestPairsBeyondThePlaces(t *testing.T) {
	const m = impl.MaxPlace
	for _, b := range boxes(box(-m+3, 0, 1, 1), box(0, -m+3, 1, 1), box(0, 0, m-3, 1), box(0, 0, 1, m-3)) {
		all := boxes(box(-m, -m, m, m))
		checkShape(t, "covered up to the places", impl.CoverOf(boxes(b), all, 3), impl.ShapeResult{})
		checkShape(t, "covered beyond the places", impl.CoverOf(boxes(b), all, 4), shapeCode(impl.ErrRange))
		checkShape(t, "apart up to the places", impl.ApartOf(boxes(b), nil, 3), impl.ShapeResult{})
		checkShape(t, "apart beyond the places", impl.ApartOf(boxes(b), nil, 4), shapeCode(impl.ErrRange))
		checkShape(t, "the other one is not grown", impl.CoverOf(nil, boxes(b), 4), impl.ShapeResult{})
		checkShape(t, "the other one is not grown", impl.ApartOf(boxes(box(0, 0, 1, 1)), all, 4), impl.ShapeResult{Boxes: boxes(box(-4, -4, 5, 5))})
	}
}

// What is grown may have too many boxes, though nearly nothing would be told; beyond the places it has another code.
func TestPairsOfTooManyGrownBoxes(t *testing.T) {
	const m = impl.MaxPlace
	all, dot := boxes(box(-m, -m, m, m)), boxes(box(500, 500, 501, 501))
	columns := twoColumns(25, 0)
	for i := range int64(3) {
		columns = append(columns, box(0, 200+9*i, 1, 201+9*i))
		want := int64(impl.OK)
		if n := len(growForm(columns, 1)); n > impl.MaxBoxes {
			want = impl.ErrMany
		} else if n != 149+int(i) {
			t.Fatalf("%d boxes were meant, these are %d", 149+i, n)
		}
		checkShape(t, "covered by all", impl.CoverOf(columns, all, 1), shapeCode(want))
		checkShape(t, "apart from a dot", impl.ApartOf(columns, dot, 1), shapeCode(want))
	}
	checkShape(t, "covered, by 0", impl.CoverOf(twoColumns(75, 0), all, 0), impl.ShapeResult{})
	checkShape(t, "covered, beyond the places", impl.CoverOf(twoColumns(75, -m), all, 1), shapeCode(impl.ErrRange))
	checkShape(t, "covered, up to the places", impl.CoverOf(twoColumns(75, -m+1), all, 1), shapeCode(impl.ErrMany))
	checkShape(t, "apart, beyond the places", impl.ApartOf(twoColumns(75, -m), dot, 1), shapeCode(impl.ErrRange))
	checkShape(t, "apart, up to the places", impl.ApartOf(twoColumns(75, -m+1), dot, 1), shapeCode(impl.ErrMany))
}

func TestPairsWithTooManyBoxes(t *testing.T) {
	for by := range int64(3) {
		tall := boxes(box(by, by-5, by+1, 1000))
		if got := impl.CoverOf(tall, wider(boxesApart(149, 0)), by); got.Code != impl.OK || len(got.Boxes) != impl.MaxBoxes {
			t.Errorf("covered by %d: code %d, %d boxes", by, got.Code, len(got.Boxes))
		}
		checkShape(t, "covered, one more", impl.CoverOf(tall, wider(boxesApart(150, 0)), by), shapeCode(impl.ErrMany))
	}
	rows := boxes(box(0, 11, 200, 12), box(0, 31, 200, 32))
	bars := stripes(75, 90)
	for by := range int64(3) {
		if got := impl.ApartOf(rows, bars, by); got.Code != impl.OK || len(got.Boxes) != impl.MaxBoxes {
			t.Errorf("apart by %d: code %d, %d boxes", by, got.Code, len(got.Boxes))
		}
		checkShape(t, "apart, one more", impl.ApartOf(append(slices.Clone(rows), box(4, 50, 5, 51)), bars, by), shapeCode(impl.ErrMany))
	}
}

// wider boxes reach further across, to and fro.
func wider(list []impl.Box) []impl.Box {
	for i := range list {
		list[i].X0 -= 50
		list[i].X1 += 50
	}
	return list
}

func TestPairsObeyLaws(t *testing.T) {
	shapes := someShapes(30, 7)
	for i, a := range shapes {
		for j, b := range shapes {
			by := int64(i+2*j) % 4
			cover, apart := impl.CoverOf(a, b, by).Boxes, impl.ApartOf(a, b, by).Boxes
			grown := impl.GrowShape(a, by)
			checkShape(t, "both are what is grown", impl.CombineShapes(impl.ShapeJoin, cover, apart), grown)
			checkShape(t, "not both at once", impl.CombineShapes(impl.ShapeMeet, cover, apart), impl.ShapeResult{})
			// Cell and cell are as near the one way as the other.
			back := impl.ApartOf(b, a, by).Boxes
			if (len(apart) == 0) != (len(back) == 0) {
				t.Errorf("%v and %v by %d: %v, the other way round %v", a, b, by, apart, back)
			}
		}
	}
}
