package tests

import (
	"testing"

	"loop.example/g00057/impl"
)

// steps counts the cells from the next one on, that way, that are in the set (or, with want false, out of it), up to most.
func steps(in cellSet, x int64, y int64, dx int64, dy int64, want bool, most int64) int64 {
	n := int64(0)
	for n < most && in(x+(n+1)*dx, y+(n+1)*dy) == want {
		n++
	}
	return n
}

// leastRun walks from a cell to both ends of its row run and of its column run: the lesser of the two, or 0 for a cell
// that is not in the set.
func leastRun(in cellSet, x int64, y int64, most int64) int64 {
	if !in(x, y) {
		return 0
	}
	across := 1 + steps(in, x, y, 1, 0, true, most) + steps(in, x, y, -1, 0, true, most)
	upward := 1 + steps(in, x, y, 0, 1, true, most) + steps(in, x, y, 0, -1, true, most)
	return min(across, upward)
}

// leastGap walks from a missing cell both ways: the lesser of the gaps that end at cells of the set at both ends, or 0
// if there is none.
func leastGap(in cellSet, x int64, y int64, most int64) int64 {
	gap := int64(0)
	if in(x, y) {
		return gap
	}
	for _, way := range [][2]int64{{1, 0}, {0, 1}} {
		there, back := steps(in, x, y, way[0], way[1], false, most), steps(in, x, y, -way[0], -way[1], false, most)
		if max(there, back) < most && (gap == 0 || 1+there+back < gap) {
			gap = 1 + there + back
		}
	}
	return gap
}

// measured keeps what is measured of each cell of a frame around 0.
func measured(s []impl.Box, frame int64, measure func(in cellSet, x int64, y int64, most int64) int64) func(x int64, y int64) int64 {
	in := cellsOf(s)
	lengths := make([]int64, 4*frame*frame)
	for i := range lengths {
		x, y := int64(i)%(2*frame)-frame, int64(i)/(2*frame)-frame
		lengths[i] = measure(in, x, y, 2*frame)
	}
	return func(x int64, y int64) int64 { return lengths[(y+frame)*2*frame+x+frame] }
}

// belowSize is the form of the cells of a frame with a length below size.
func belowSize(length func(x int64, y int64) int64, size int64, frame int64) impl.ShapeResult {
	in := func(x int64, y int64) bool { return length(x, y) > 0 && length(x, y) < size }
	return shapeWant(formOf(in, placesFrom(-frame, frame), placesFrom(-frame, frame)))
}

func TestRunsCellByCell(t *testing.T) {
	const frame = 4
	for _, width := range []int{4, 3, 2, 6} {
		for bits := range 1 << 12 {
			units := unitBoxes(bits, width, 12)
			for i, b := range units {
				units[i] = box(b.X0-3, b.Y0-3, b.X1-3, b.Y1-3)
			}
			s := formOfBoxes(units)
			runs, gaps := measured(s, frame, leastRun), measured(s, frame, leastGap)
			for size := int64(1); size <= 7; size++ {
				if got, want := impl.ThinOf(s, size), belowSize(runs, size, frame); !sameShape(got, want) {
					t.Fatalf("ThinOf(%v, %d) = %v, want %v", s, size, got, want)
				}
				if got, want := impl.NearOf(s, size), belowSize(gaps, size, frame); !sameShape(got, want) {
					t.Fatalf("NearOf(%v, %d) = %v, want %v", s, size, got, want)
				}
			}
		}
	}
}

func TestRunsOfGreaterShapes(t *testing.T) {
	const frame = 10
	for _, s := range someShapes(60, 9) {
		runs, gaps := measured(s, frame, leastRun), measured(s, frame, leastGap)
		for size := int64(1); size <= 20; size++ {
			thin, near := belowSize(runs, size, frame), belowSize(gaps, size, frame)
			checkShape(t, "thin", impl.ThinOf(s, size), thin)
			checkShape(t, "near", impl.NearOf(s, size), near)
			checkShape(t, "thin by strips", thinWant(s, size), thin)
			checkShape(t, "near by strips", nearWant(s, size), near)
		}
	}
}

// stretched is a shape with each place so many times further out.
func stretched(s []impl.Box, x int64, y int64) []impl.Box {
	var list []impl.Box
	for _, b := range s {
		list = append(list, box(b.X0*x, b.Y0*y, b.X1*x, b.Y1*y))
	}
	return list
}

func TestRunsOfFarShapes(t *testing.T) {
	for i, s := range someShapes(60, 9) {
		far := stretched(s, int64(1+i*37%1100), int64(1+i*91%1100))
		for _, size := range []int64{1, 2, 50, 400, 999, 1000} {
			checkShape(t, "thin", impl.ThinOf(far, size), thinWant(far, size))
			checkShape(t, "near", impl.NearOf(far, size), nearWant(far, size))
		}
	}
}

func TestRunsOfManyBoxes(t *testing.T) {
	met := map[int64]int{}
	for i := range int64(30) {
		s := formOfBoxes(someBoxes(i, 100, 6+2*i))
		for _, size := range []int64{1, 2, 3, 5, 12, 40} {
			thin, near := thinWant(s, size), nearWant(s, size)
			met[thin.Code]++
			checkShape(t, "thin", impl.ThinOf(s, size), thin)
			checkShape(t, "near", impl.NearOf(s, size), near)
		}
	}
	if met[impl.OK] < 5 || met[impl.ErrMany] < 5 {
		t.Errorf("the codes are %v: the shapes do not ask for all of them", met)
	}
}

type runCase struct {
	name string
	s    []impl.Box
	size int64
	want []impl.Box
}

// plus has arms of three cells' width and length; its middle alone lies in long runs both ways.
func plus() []impl.Box {
	return boxes(box(3, 0, 6, 3), box(0, 3, 9, 6), box(3, 6, 6, 9))
}

func TestThinByHand(t *testing.T) {
	const m, g = impl.MaxPlace, impl.MaxGrow
	bar, tall, square := boxes(box(0, 0, 5, 3)), boxes(box(0, 0, 3, 5)), boxes(box(-2, -2, 2, 2))
	corner := boxes(box(0, 0, 10, 2), box(0, 2, 2, 10))
	touching := boxes(box(0, 0, 2, 2), box(2, 2, 4, 4))
	pyramid := boxes(box(0, 0, 9, 1), box(2, 1, 7, 2), box(4, 2, 5, 3))
	dots := boxes(box(0, 0, 1, 1), box(2, 0, 6, 1), box(7, 0, 8, 1))
	cases := []runCase{
		{"none", nil, 1, nil}, {"none, the most", nil, g, nil},
		{"one cell, 1", boxes(box(7, 8, 8, 9)), 1, nil}, {"one cell, 2", boxes(box(7, 8, 8, 9)), 2, boxes(box(7, 8, 8, 9))},
		{"long across, at its height", bar, 3, nil}, {"one above", bar, 4, bar}, {"one below", bar, 2, nil}, {"at its width", bar, 5, bar},
		{"long upward, at its width", tall, 3, nil}, {"one above", tall, 4, tall}, {"one below", tall, 2, nil}, {"at its height", tall, 5, tall},
		{"a square", square, 4, nil}, {"a square, one above", square, 5, square},
		{"a plus, 3", plus(), 3, nil}, {"a plus, 4", plus(), 4, boxes(box(3, 0, 6, 3), box(0, 3, 3, 6), box(6, 3, 9, 6), box(3, 6, 6, 9))},
		{"a plus, 9", plus(), 9, boxes(box(3, 0, 6, 3), box(0, 3, 3, 6), box(6, 3, 9, 6), box(3, 6, 6, 9))}, {"a plus, 10", plus(), 10, plus()},
		{"a corner, 2", corner, 2, nil}, {"a corner, 3", corner, 3, boxes(box(2, 0, 10, 2), box(0, 2, 2, 10))}, {"a corner, 11", corner, 11, corner},
		{"at a corner alone", touching, 2, nil}, {"at a corner alone, 3", touching, 3, touching},
		{"a ring", ring(), 1, nil}, {"a ring, 2", ring(), 2, boxes(box(1, 0, 2, 1), box(0, 1, 1, 2), box(2, 1, 3, 2), box(1, 2, 2, 3))}, {"a ring, 4", ring(), 4, ring()},
		{"a pyramid, 2", pyramid, 2, boxes(box(0, 0, 2, 1), box(7, 0, 9, 1), box(4, 2, 5, 3))},
		{"a pyramid, 3", pyramid, 3, boxes(box(0, 0, 4, 1), box(5, 0, 9, 1), box(2, 1, 4, 2), box(5, 1, 7, 2), box(4, 2, 5, 3))},
		{"boxes of one row", dots, 1, nil}, {"boxes of one row, 2", dots, 2, dots},
		{"long runs only", boxes(box(0, 0, 1, 9), box(3, 0, 8, 9)), 5, boxes(box(0, 0, 1, 9))},
		{"the most, at it", boxes(box(0, 0, g, g)), g, nil}, {"the most, one below", boxes(box(0, 0, g, g)), g - 1, nil},
		{"the most, one cell too narrow", boxes(box(0, 0, g-1, 2*g)), g, boxes(box(0, 0, g-1, 2*g))},
		{"the most, one cell too low", boxes(box(0, 0, 2*g, g-1)), g, boxes(box(0, 0, 2*g, g-1))},
		{"all places", boxes(box(-m, -m, m, m)), g, nil},
		{"the outermost cells", boxes(box(-m, -m, -m+1, -m+1), box(m-1, m-1, m, m)), 2, boxes(box(-m, -m, -m+1, -m+1), box(m-1, m-1, m, m))},
	}
	for _, c := range cases {
		checkShape(t, "ThinOf, "+c.name, impl.ThinOf(c.s, c.size), impl.ShapeResult{Boxes: c.want})
	}
}

// frameOf is a frame of one cell's width around a hole of that width and height.
func frameOf(width int64, height int64) []impl.Box {
	return boxes(box(0, 0, width+2, 1), box(0, 1, 1, height+1), box(width+1, 1, width+2, height+1), box(0, height+1, width+2, height+2))
}

func TestNearByHand(t *testing.T) {
	const m, g = impl.MaxPlace, impl.MaxGrow
	pair, over := boxes(box(0, 0, 1, 1), box(4, 0, 5, 1)), boxes(box(0, 0, 1, 1), box(0, 4, 1, 5))
	dots := boxes(box(0, 0, 1, 1), box(2, 0, 3, 1), box(8, 0, 9, 1))
	legs := boxes(box(0, 0, 5, 1), box(0, 1, 1, 3), box(4, 1, 5, 3), box(0, 3, 1, 9))
	two := formOfBoxes(boxes(box(0, 0, 2, 2), box(5, 1, 7, 3)))
	cases := []runCase{
		{"none", nil, 1, nil}, {"none, the most", nil, g, nil},
		{"one box", boxes(box(-3, -4, 5, 6)), g, nil}, {"all places", boxes(box(-m, -m, m, m)), g, nil},
		{"the example", boxes(box(0, 0, 1, 1), box(2, 0, 3, 1)), 2, boxes(box(1, 0, 2, 1))}, {"the example, 1", boxes(box(0, 0, 1, 1), box(2, 0, 3, 1)), 1, nil},
		{"a gap of 3, at it", pair, 3, nil}, {"one above", pair, 4, boxes(box(1, 0, 4, 1))}, {"one below", pair, 2, nil},
		{"a gap of 3 upward, at it", over, 3, nil}, {"one above", over, 4, boxes(box(0, 1, 1, 4))}, {"one below", over, 2, nil},
		{"a cell between", dots, 2, boxes(box(1, 0, 2, 1))}, {"a cell between, 6", dots, 6, boxes(box(1, 0, 2, 1), box(3, 0, 8, 1))}, {"a cell between, the most", dots, g, boxes(box(1, 0, 2, 1), box(3, 0, 8, 1))},
		{"a hole", ring(), 1, nil}, {"a hole, 2", ring(), 2, boxes(box(1, 1, 2, 2))},
		{"a hole, far across", frameOf(9, 2), 2, nil}, {"a hole, far across and near upward", frameOf(9, 2), 3, boxes(box(1, 1, 10, 3))},
		{"a hole, far upward", frameOf(2, 9), 2, nil}, {"a hole, far upward and near across", frameOf(2, 9), 3, boxes(box(1, 1, 3, 10))},
		{"legs of two heights, at the gap", legs, 3, nil}, {"legs of two heights", legs, 4, boxes(box(1, 1, 4, 3))},
		{"at a corner alone", boxes(box(0, 0, 2, 2), box(2, 2, 4, 4)), g, nil}, {"aslant", boxes(box(0, 0, 1, 1), box(2, 2, 3, 3)), g, nil},
		{"beside each other in one row", two, 3, nil}, {"beside each other in one row, 4", two, 4, boxes(box(2, 1, 5, 2))},
		{"a plus has no gap", plus(), g, nil},
		{"the most, at it", boxes(box(0, 0, 1, 1), box(g+1, 0, g+2, 1)), g, nil}, {"the most, one cell nearer", boxes(box(0, 0, 1, 1), box(g, 0, g+1, 1)), g, boxes(box(1, 0, g, 1))},
		{"the outermost cells", boxes(box(-m, -m, -m+1, m), box(m-1, -m, m, m)), g, nil},
		{"at the outer side", boxes(box(-m, -m, -m+1, m), box(-m+3, -m, -m+4, m)), 3, boxes(box(-m+1, -m, -m+3, m))},
	}
	for _, c := range cases {
		checkShape(t, "NearOf, "+c.name, impl.NearOf(c.s, c.size), impl.ShapeResult{Boxes: c.want})
	}
}

func TestSizesOfRuns(t *testing.T) {
	shapes := append(someShapes(5, 6), ring(), boxesApart(impl.MaxBoxes, 0))
	for _, code := range []int64{impl.ErrMany, impl.ErrRange, impl.ErrForm} {
		shapes = append(shapes, faultyShapes()[code])
	}
	for _, s := range shapes {
		fault := shapeFaultWant(s)
		for _, size := range sizeEdges() {
			want := fault
			if fault == impl.OK && (size < 1 || size > 1000) {
				want = impl.ErrRange
			}
			thin, near := impl.ThinOf(s, size), impl.NearOf(s, size)
			if thin.Code != want || near.Code != want {
				t.Errorf("%s with %d: thin %d, near %d, want %d", brief(s), size, thin.Code, near.Code, want)
			}
			if want != impl.OK && len(thin.Boxes)+len(near.Boxes) > 0 {
				t.Errorf("%s with %d: the code %d, and boxes", brief(s), size, want)
			}
		}
	}
}

// comb has pillars below and bars above, each shorter than the one below it: over the gaps between the pillars all its
// columns are short, over the pillars they are long. The dots stand apart.
func comb(pillars int64, bars int64, dots int64) []impl.Box {
	var list []impl.Box
	for i := range pillars {
		list = append(list, box(40*i+20, -30, 40*i+40, 0))
	}
	for i := range bars {
		list = append(list, box(0, i, 40*pillars+20-i, i+1))
	}
	for i := range dots {
		list = append(list, box(0, 100+2*i, 1, 101+2*i))
	}
	return list
}

func TestThinWithTooManyBoxes(t *testing.T) {
	for dots := range int64(5) {
		s := comb(11, 12, dots+4)
		want := stripsOf(s).eitherWay(func(g strips, i int, j int) bool { return g.thin(i, j, 20) })
		if len(want) != 148+int(dots) {
			t.Fatalf("%d boxes were meant, these are %d", 148+dots, len(want))
		}
		checkShape(t, "a comb", impl.ThinOf(s, 20), shapeWant(want))
	}
	full := boxesApart(impl.MaxBoxes, 0)
	checkShape(t, "all of as many as may be", impl.ThinOf(full, 2), impl.ShapeResult{Boxes: full})
	checkShape(t, "all of one more", impl.ThinOf(boxesApart(impl.MaxBoxes+1, 0), 2), shapeCode(impl.ErrMany))
}

// cave has a floor with deep notches and a roof in steps; between them, over the floor, the columns are near. The pairs
// stand apart.
func cave(notches int64, roofs int64, pairs int64) []impl.Box {
	list := boxes(box(0, 0, 40*notches+20, 1))
	for i := range notches + 1 {
		list = append(list, box(40*i, 1, 40*i+20, 40))
	}
	for i := range roofs {
		list = append(list, box(0, 42+i, i+1, 43+i))
	}
	list[len(list)-1].X1 = 40*notches + 20
	for i := range pairs {
		list = append(list, box(0, 200+100*i, 1, 201+100*i), box(2, 200+100*i, 3, 201+100*i))
	}
	return list
}

func TestNearWithTooManyBoxes(t *testing.T) {
	for pairs := range int64(5) {
		s := cave(11, 12, pairs+4)
		want := stripsOf(s).eitherWay(func(g strips, i int, j int) bool { return g.near(i, j, 20) })
		if len(want) != 148+int(pairs) {
			t.Fatalf("%d boxes were meant, these are %d", 148+pairs, len(want))
		}
		checkShape(t, "a cave", impl.NearOf(s, 20), shapeWant(want))
	}
	if got := impl.NearOf(stripes(impl.MaxBoxes, 3), 2); got.Code != impl.OK || len(got.Boxes) != impl.MaxBoxes-1 {
		t.Errorf("the gaps of a full row: code %d, %d boxes", got.Code, len(got.Boxes))
	}
	checkShape(t, "one more", impl.NearOf(stripes(impl.MaxBoxes+1, 3), 2), shapeCode(impl.ErrMany))
}

// A shape may have far more column runs than boxes; what is told of them may be small all the same.
func TestManyColumnRuns(t *testing.T) {
	var bars []impl.Box
	for i := range int64(150) {
		bars = append(bars, box(-3*i-5, 2*i, 3*i+5, 2*i+1))
	}
	checkShape(t, "bars, 1", impl.ThinOf(bars, 1), impl.ShapeResult{})
	checkShape(t, "bars, 2", impl.ThinOf(bars, 2), impl.ShapeResult{Boxes: bars})
	near := impl.NearOf(bars, 2)
	if near.Code != impl.OK || len(near.Boxes) != 149 || near.Boxes[7] != box(-26, 15, 26, 16) {
		t.Errorf("the gaps of bars: code %d, %d boxes", near.Code, len(near.Boxes))
	}
}

func TestRunsObeyLaws(t *testing.T) {
	for _, s := range someShapes(60, 9) {
		var thin, near []impl.Box
		for size := int64(1); size <= 20; size++ {
			more, wider := impl.ThinOf(s, size).Boxes, impl.NearOf(s, size).Boxes
			checkShape(t, "thin cells are of the shape", impl.CombineShapes(impl.ShapeLess, more, s), impl.ShapeResult{})
			checkShape(t, "gaps are not", impl.CombineShapes(impl.ShapeMeet, wider, s), impl.ShapeResult{})
			checkShape(t, "gaps lie in the bounds", impl.CombineShapes(impl.ShapeLess, wider, impl.BoundsOf(s).Boxes), impl.ShapeResult{})
			checkShape(t, "a greater size tells no less of thin cells", impl.CombineShapes(impl.ShapeLess, thin, more), impl.ShapeResult{})
			checkShape(t, "a greater size tells no less of gaps", impl.CombineShapes(impl.ShapeLess, near, wider), impl.ShapeResult{})
			turned := impl.TurnShape(s, 1).Boxes
			checkShape(t, "turned thin", impl.ThinOf(turned, size), impl.TurnShape(more, 1))
			checkShape(t, "turned near", impl.NearOf(turned, size), impl.TurnShape(wider, 1))
			thin, near = more, wider
		}
		checkShape(t, "all is thin at last", impl.ShapeResult{Boxes: thin}, impl.ShapeResult{Boxes: s})
	}
}
