package tests

import (
	"math"
	"slices"
	"testing"

	"loop.example/g00057/impl"
)

// near tells whether a cell that is (or, with want false, is not) one of the set lies no further than by.
func near(in cellSet, by int64, want bool) cellSet {
	return func(x int64, y int64) bool {
		for dx := -by; dx <= by; dx++ {
			for dy := -by; dy <= by; dy++ {
				if in(x+dx, y+dy) == want {
					return true
				}
			}
		}
		return false
	}
}

func not(in cellSet) cellSet {
	return func(x int64, y int64) bool { return !in(x, y) }
}

// growWant looks at every cell of a frame that has what comes of s.
func growWant(s []impl.Box, by int64, frame int64) impl.ShapeResult {
	grown := near(cellsOf(s), by, true)
	if by < 0 {
		grown = not(near(cellsOf(s), -by, false))
	}
	return shapeWant(formOf(grown, placesFrom(-frame, frame), placesFrom(-frame, frame)))
}

func TestGrowingCellByCell(t *testing.T) {
	for bits := range 1 << 9 {
		s := formOfBoxes(unitBoxes(bits, 3, 9))
		for by := int64(-2); by <= 2; by++ {
			checkShape(t, "grown", impl.GrowShape(s, by), growWant(s, by, 7))
		}
	}
	for _, s := range someShapes(40, 8) {
		for by := int64(-4); by <= 4; by++ {
			checkShape(t, "grown", impl.GrowShape(s, by), growWant(s, by, 13))
		}
	}
}

// holes is a square with holes; each cell of it is near a missing one within the square alone.
func holes(gaps ...impl.Box) []impl.Box {
	in, out := cellsOf(boxes(box(-10, -10, 10, 10))), cellsOf(gaps)
	both := func(x int64, y int64) bool { return in(x, y) && !out(x, y) }
	return formOf(both, placesFrom(-10, 10), placesFrom(-10, 10))
}

func TestHolesGrowAsAShapeShrinks(t *testing.T) {
	for i := range 40 {
		s := holes(someBoxes(int64(i), 1+i%4, 9)...)
		for by := int64(-5); by <= 3; by++ {
			checkShape(t, "with holes", impl.GrowShape(s, by), growWant(s, by, 15))
		}
	}
}

func TestGrowingAtTheEdges(t *testing.T) {
	const m, g = impl.MaxPlace, impl.MaxGrow
	all, one := boxes(box(-m, -m, m, m)), boxes(box(0, 0, 1, 1))
	cases := []struct {
		name string
		s    []impl.Box
		by   int64
		want impl.ShapeResult
	}{
		{"none", nil, 0, impl.ShapeResult{}},
		{"none", nil, g, impl.ShapeResult{}},
		{"none", nil, -g, impl.ShapeResult{}},
		{"none, too far", nil, g + 1, shapeCode(impl.ErrRange)},
		{"none, too far in", nil, -g - 1, shapeCode(impl.ErrRange)},
		{"by 0", ring(), 0, impl.ShapeResult{Boxes: ring()}},
		{"by 1", one, 1, impl.ShapeResult{Boxes: boxes(box(-1, -1, 2, 2))}},
		{"the hole is filled", ring(), 1, impl.ShapeResult{Boxes: boxes(box(-1, -1, 4, 4))}},
		{"the ring goes", ring(), -1, impl.ShapeResult{}},
		{"by the most", one, g, impl.ShapeResult{Boxes: boxes(box(-g, -g, g+1, g+1))}},
		{"by the most, inward", boxes(box(0, 0, 2*g+1, 2*g+1)), -g, impl.ShapeResult{Boxes: boxes(box(g, g, g+1, g+1))}},
		{"to nothing", boxes(box(0, 0, 2*g, 5*g)), -g, impl.ShapeResult{}},
		{"to nothing at once", one, -1, impl.ShapeResult{}},
		{"beyond the most", one, g + 1, shapeCode(impl.ErrRange)},
		{"beyond the most, inward", one, -g - 1, shapeCode(impl.ErrRange)},
		{"by the greatest number", one, math.MaxInt64, shapeCode(impl.ErrRange)},
		{"by the least number", one, math.MinInt64, shapeCode(impl.ErrRange)},
		{"all places", all, 0, impl.ShapeResult{Boxes: all}},
		{"over all places", all, 1, shapeCode(impl.ErrRange)},
		{"all places, inward", all, -1, impl.ShapeResult{Boxes: boxes(box(-m+1, -m+1, m-1, m-1))}},
		{"all places, far inward", all, -g, impl.ShapeResult{Boxes: boxes(box(-m+g, -m+g, m-g, m-g))}},
	}
	for _, c := range cases {
		checkShape(t, c.name, impl.GrowShape(c.s, c.by), c.want)
	}
}

func TestGrowingUpToThePlaces(t *testing.T) {
	const m = impl.MaxPlace
	for _, b := range boxes(box(-m+3, 0, 1, 1), box(0, -m+3, 1, 1), box(0, 0, m-3, 1), box(0, 0, 1, m-3)) {
		want := impl.ShapeResult{Boxes: boxes(box(b.X0-3, b.Y0-3, b.X1+3, b.Y1+3))}
		checkShape(t, "up to the places", impl.GrowShape(boxes(b), 3), want)
		checkShape(t, "beyond the places", impl.GrowShape(boxes(b), 4), shapeCode(impl.ErrRange))
	}
}

func TestFaultsAheadOfGrowing(t *testing.T) {
	far, many, twice := boxes(box(0, 0, 20000, 1)), boxesApart(impl.MaxBoxes+1, 0), boxes(box(0, 0, 1, 1), box(0, 0, 1, 1))
	for _, by := range []int64{0, 1, -1, impl.MaxGrow + 1, -impl.MaxGrow - 1, math.MinInt64} {
		checkShape(t, "far", impl.GrowShape(far, by), shapeCode(impl.ErrRange))
		checkShape(t, "many", impl.GrowShape(many, by), shapeCode(impl.ErrMany))
		checkShape(t, "twice", impl.GrowShape(twice, by), shapeCode(impl.ErrForm))
	}
}

// twoColumns are bands that do not touch, but lie beside one another once they are grown.
func twoColumns(n int64, from int64) []impl.Box {
	var list []impl.Box
	for i := range n {
		list = append(list, box(0, from+4*i, 1, from+4*i+1), box(9, from+4*i+2, 10, from+4*i+3))
	}
	return list
}

// growForm is the form of s grown, by its boxes alone, of any places.
func growForm(s []impl.Box, by int64) []impl.Box {
	var grown []impl.Box
	for _, b := range s {
		grown = append(grown, box(b.X0-by, b.Y0-by, b.X1+by, b.Y1+by))
	}
	return formOfBoxes(grown)
}

func TestGrowingToTooManyBoxes(t *testing.T) {
	for extra := range 4 {
		s := append(twoColumns(25, 0), boxesApart(extra, 200)...)
		// A box apart from the columns must stay apart as it grows.
		for i := range s[50:] {
			s[50+i].Y0 += 4 * int64(i)
			s[50+i].Y1 += 4 * int64(i)
		}
		want := growForm(s, 1)
		if len(want) != 148+extra {
			t.Fatalf("%d boxes were meant, these are %d", 148+extra, len(want))
		}
		checkShape(t, "two columns", impl.GrowShape(s, 1), shapeWant(want))
	}
	checkShape(t, "many", impl.GrowShape(twoColumns(75, 0), 1), shapeCode(impl.ErrMany))
	checkShape(t, "many, beyond the places", impl.GrowShape(twoColumns(75, -impl.MaxPlace), 1), shapeCode(impl.ErrRange))
	checkShape(t, "many, up to the places", impl.GrowShape(twoColumns(75, -impl.MaxPlace+1), 1), shapeCode(impl.ErrMany))
}

// sieve is a plate with two columns of holes, and that many squares of three cells above it, apart from one another.
func sieve(n int64, squares int64) cellSet {
	gaps := cellsOf(twoColumns(n, 0))
	return func(x int64, y int64) bool {
		up := y - 4*n - 5
		square := x >= 0 && x < 3 && up >= 0 && up < 4*squares && up%4 < 3
		return square || x >= -3 && x < 13 && y >= -3 && y < 4*n+3 && !gaps(x, y)
	}
}

func TestShrinkingToTooManyBoxes(t *testing.T) {
	seen := map[int]int64{}
	for squares := range int64(30) {
		const n = 13
		in := sieve(n, squares)
		xs, ys := placesFrom(-4, 14), placesFrom(-4, 4*(n+squares)+6)
		want := formOf(not(near(in, 1, false)), xs, ys)
		got := impl.GrowShape(formOf(in, xs, ys), -1)
		checkShape(t, "a sieve", got, shapeWant(want))
		seen[len(want)] = got.Code
	}
	if code, met := seen[impl.MaxBoxes]; !met || code != impl.OK {
		t.Errorf("no sieve of just %d boxes is right", impl.MaxBoxes)
	}
	if seen[impl.MaxBoxes+1] != impl.ErrMany {
		t.Errorf("a sieve of %d boxes has the code %d", impl.MaxBoxes+1, seen[impl.MaxBoxes+1])
	}
}

func TestGrowingInTwoGoes(t *testing.T) {
	for _, s := range someShapes(60, 8) {
		for first := range int64(4) {
			for second := range int64(4) {
				for _, sign := range []int64{1, -1} {
					once := impl.GrowShape(s, sign*(first+second))
					twice := impl.GrowShape(impl.GrowShape(s, sign*first).Boxes, sign*second)
					checkShape(t, "in two goes", twice, once)
				}
			}
		}
	}
}

func TestWhatIsGrownAndShrunkHasTheShape(t *testing.T) {
	for _, s := range someShapes(60, 8) {
		for by := range int64(4) {
			closed := impl.GrowShape(impl.GrowShape(s, by).Boxes, -by)
			opened := impl.GrowShape(impl.GrowShape(s, -by).Boxes, by)
			checkShape(t, "closed", impl.CombineShapes(impl.ShapeLess, s, closed.Boxes), impl.ShapeResult{})
			checkShape(t, "opened", impl.CombineShapes(impl.ShapeLess, opened.Boxes, s), impl.ShapeResult{})
		}
	}
}

func TestMoving(t *testing.T) {
	const m = impl.MaxPlace
	low, high := boxes(box(-m, -m, -m+1, -m+1)), boxes(box(m-1, m-1, m, m))
	cases := []struct {
		name string
		s    []impl.Box
		x, y int64
		want impl.ShapeResult
	}{
		{"by 0", ring(), 0, 0, impl.ShapeResult{Boxes: ring()}},
		{"right and down", ring(), 5, -7, impl.ShapeResult{Boxes: boxes(box(5, -7, 8, -6), box(5, -6, 6, -5), box(7, -6, 8, -5), box(5, -5, 8, -4))}},
		{"from corner to corner", low, 2*m - 1, 2*m - 1, impl.ShapeResult{Boxes: high}},
		{"and back", high, -2*m + 1, -2*m + 1, impl.ShapeResult{Boxes: low}},
		{"the cell leaves to the right", low, 2 * m, 0, shapeCode(impl.ErrRange)},
		{"the cell leaves upward", low, 0, 2 * m, shapeCode(impl.ErrRange)},
		{"the cell leaves to the left", high, -2 * m, 0, shapeCode(impl.ErrRange)},
		{"the cell leaves downward", high, 0, -2 * m, shapeCode(impl.ErrRange)},
		{"one step off, left", low, -1, 0, shapeCode(impl.ErrRange)},
		{"one step off, down", low, 0, -1, shapeCode(impl.ErrRange)},
		{"one step off, right", high, 1, 0, shapeCode(impl.ErrRange)},
		{"one step off, up", high, 0, 1, shapeCode(impl.ErrRange)},
		{"the second box leaves", append(slices.Clone(low), high...), 1, 1, shapeCode(impl.ErrRange)},
		{"none, as far as may be", nil, 2 * m, -2 * m, impl.ShapeResult{}},
		{"none, as far back", nil, -2 * m, 2 * m, impl.ShapeResult{}},
		{"none, further", nil, 2*m + 1, 0, shapeCode(impl.ErrRange)},
		{"none, further upward", nil, 0, 2*m + 1, shapeCode(impl.ErrRange)},
		{"none, further back", nil, -2*m - 1, 0, shapeCode(impl.ErrRange)},
		{"none, further downward", nil, 0, -2*m - 1, shapeCode(impl.ErrRange)},
		{"by the least number", ring(), math.MinInt64, 0, shapeCode(impl.ErrRange)},
		{"by the greatest number", ring(), 0, math.MaxInt64, shapeCode(impl.ErrRange)},
		{"not in the one form, too far", boxes(box(0, 0, 1, 1), box(0, 0, 1, 1)), 3 * m, 0, shapeCode(impl.ErrForm)},
		{"too many, too far", boxesApart(impl.MaxBoxes+1, 0), 3 * m, 0, shapeCode(impl.ErrMany)},
		{"far boxes that would come in", boxes(box(m, 0, m+1, 1)), -5, 0, shapeCode(impl.ErrRange)},
	}
	for _, c := range cases {
		checkShape(t, c.name, impl.MoveShape(c.s, c.x, c.y), c.want)
	}
}

func TestMovingTurnsNothing(t *testing.T) {
	for i, s := range someShapes(60, 8) {
		x, y := int64(i*37%100-50), int64(i*91%100-50)
		moved := impl.MoveShape(s, x, y)
		in := cellsOf(s)
		want := formOf(func(u int64, v int64) bool { return in(u-x, v-y) }, placesFrom(-60, 60), placesFrom(-60, 60))
		checkShape(t, "moved", moved, shapeWant(want))
		if impl.AreaOf(moved.Boxes) != impl.AreaOf(s) || impl.RimOf(moved.Boxes) != impl.RimOf(s) {
			t.Errorf("%v, moved by %d, %d, has another area or rim", s, x, y)
		}
		checkShape(t, "moved back", impl.MoveShape(moved.Boxes, -x, -y), impl.ShapeResult{Boxes: s})
	}
}

// turnedOnce tells the cells of a set that is turned a quarter: the cell x, y comes to -y - 1, x.
func turnedOnce(in cellSet) cellSet {
	return func(x int64, y int64) bool { return in(y, -x-1) }
}

func turnWant(s []impl.Box, quarters int64, frame int64) impl.ShapeResult {
	in := cellsOf(s)
	for range ((quarters % 4) + 4) % 4 {
		in = turnedOnce(in)
	}
	return shapeWant(formOf(in, placesFrom(-frame, frame), placesFrom(-frame, frame)))
}

func TestTurning(t *testing.T) {
	list := []int64{0, 1, 2, 3, 4, 5, 6, 7, -1, -2, -3, -4, -5, math.MaxInt64, math.MaxInt64 - 1, math.MinInt64, math.MinInt64 + 1, math.MinInt64 + 2}
	for _, s := range someShapes(40, 8) {
		for _, quarters := range list {
			turned := impl.TurnShape(s, quarters)
			checkShape(t, "turned", turned, turnWant(s, quarters, 9))
			if impl.AreaOf(turned.Boxes) != impl.AreaOf(s) || impl.RimOf(turned.Boxes) != impl.RimOf(s) {
				t.Errorf("%v, turned %d times, has another area or rim", s, quarters)
			}
		}
		once := s
		for range 4 {
			once = impl.TurnShape(once, 1).Boxes
		}
		checkShape(t, "turned four times", impl.ShapeResult{Boxes: once}, impl.ShapeResult{Boxes: s})
	}
}

func TestTurningAtTheEdges(t *testing.T) {
	const m = impl.MaxPlace
	corner := box(-m, -m, -m+1, -m+2)
	want := boxes(corner, box(m-2, -m, m, -m+1), box(m-1, m-2, m, m), box(-m, m-1, -m+2, m))
	for quarters, b := range want {
		checkShape(t, "a corner", impl.TurnShape(boxes(corner), int64(quarters)), impl.ShapeResult{Boxes: boxes(b)})
	}
	for _, quarters := range edgePlaces() {
		checkShape(t, "none", impl.TurnShape(nil, quarters), impl.ShapeResult{})
		checkShape(t, "all places", impl.TurnShape(boxes(box(-m, -m, m, m)), quarters), impl.ShapeResult{Boxes: boxes(box(-m, -m, m, m))})
		checkShape(t, "twice", impl.TurnShape(boxes(box(0, 0, 1, 1), box(0, 0, 1, 1)), quarters), shapeCode(impl.ErrForm))
		checkShape(t, "far", impl.TurnShape(boxes(box(0, 0, 1, m+1)), quarters), shapeCode(impl.ErrRange))
		checkShape(t, "many", impl.TurnShape(boxesApart(impl.MaxBoxes+1, 0), quarters), shapeCode(impl.ErrMany))
	}
}

// stairs are n bands, apart from one another, each one step further across than the one below.
func stairs(n int64, width int64) []impl.Box {
	var list []impl.Box
	for i := range n {
		list = append(list, box(2*i, 2*i, 2*i+width, 2*i+1))
	}
	return list
}

func TestTurningToTooManyBoxes(t *testing.T) {
	seen := map[int64]bool{}
	for n := int64(1); n <= 30; n++ {
		s := stairs(n, 11)
		want := turnWant(s, 1, 80)
		seen[want.Code] = true
		checkShape(t, "once", impl.TurnShape(s, 1), want)
		checkShape(t, "three times", impl.TurnShape(s, 3), turnWant(s, 3, 80))
		if impl.TurnShape(s, 0).Code != impl.OK || impl.TurnShape(s, 2).Code != impl.OK {
			t.Errorf("stairs of %d, turned by halves, have a code", n)
		}
	}
	if !seen[impl.OK] || !seen[impl.ErrMany] {
		t.Errorf("the codes are %v", seen)
	}
	// Two steps are two boxes as they lie, and four once they are turned.
	two := boxes(box(1000, 10, 1011, 11), box(1002, 12, 1013, 13))
	if got := impl.TurnShape(append(stripes(impl.MaxBoxes-4, 3), two...), 1); got.Code != impl.OK || len(got.Boxes) != impl.MaxBoxes {
		t.Errorf("stripes and steps, turned: code %d, %d boxes", got.Code, len(got.Boxes))
	}
	checkShape(t, "one stripe more", impl.TurnShape(append(stripes(impl.MaxBoxes-3, 3), two...), 1), shapeCode(impl.ErrMany))
	// A row of as many boxes as may be stays as many in a column.
	if got := impl.TurnShape(stripes(impl.MaxBoxes, 3), 1); got.Code != impl.OK || len(got.Boxes) != impl.MaxBoxes {
		t.Errorf("a full row, turned: code %d, %d boxes", got.Code, len(got.Boxes))
	}
}

func rimWant(s []impl.Box, frame int64) int64 {
	in, rim := cellsOf(s), int64(0)
	for x := -frame; x < frame; x++ {
		for y := -frame; y < frame; y++ {
			if in(x, y) != in(x+1, y) {
				rim++
			}
			if in(x, y) != in(x, y+1) {
				rim++
			}
		}
	}
	return rim
}

func TestRimsCellByCell(t *testing.T) {
	for bits := range 1 << 12 {
		s := formOfBoxes(unitBoxes(bits, 4, 12))
		if got := impl.RimOf(s); got != (impl.ShapeInt{Value: rimWant(s, 6)}) {
			t.Fatalf("RimOf(%v) = %v, want %d", s, got, rimWant(s, 6))
		}
	}
	for _, s := range someShapes(80, 9) {
		if got := impl.RimOf(s); got != (impl.ShapeInt{Value: rimWant(s, 11)}) {
			t.Fatalf("RimOf(%v) = %v, want %d", s, got, rimWant(s, 11))
		}
	}
}

func TestRims(t *testing.T) {
	cases := []struct {
		s    []impl.Box
		want impl.ShapeInt
	}{
		{nil, impl.ShapeInt{}},
		{boxes(box(0, 0, 1, 1)), impl.ShapeInt{Value: 4}},
		{ring(), impl.ShapeInt{Value: 16}},
		{boxes(box(0, 0, 1, 1), box(1, 1, 2, 2)), impl.ShapeInt{Value: 8}},
		{boxes(box(-10000, -10000, 10000, 10000)), impl.ShapeInt{Value: 80000}},
		{boxesApart(impl.MaxBoxes, 0), impl.ShapeInt{Value: 600}},
		{boxesApart(impl.MaxBoxes+1, 0), impl.ShapeInt{Code: impl.ErrMany}},
		{boxes(box(0, 0, 1, 0)), impl.ShapeInt{Code: impl.ErrForm}},
		{boxes(box(0, -10001, 1, 1)), impl.ShapeInt{Code: impl.ErrRange}},
		{boxes(box(0, 0, 1, 1), box(0, 1, 1, 2)), impl.ShapeInt{Code: impl.ErrForm}},
	}
	for _, c := range cases {
		if got := impl.RimOf(c.s); got != c.want {
			t.Errorf("RimOf(%.200v) = %v, want %v", c.s, got, c.want)
		}
	}
}

func TestBounds(t *testing.T) {
	const m = impl.MaxPlace
	cases := []struct {
		s    []impl.Box
		want impl.ShapeResult
	}{
		{nil, impl.ShapeResult{}},
		{boxes(box(3, 4, 5, 6)), impl.ShapeResult{Boxes: boxes(box(3, 4, 5, 6))}},
		{ring(), impl.ShapeResult{Boxes: boxes(box(0, 0, 3, 3))}},
		{boxes(box(5, -3, 6, -1), box(-7, 0, -6, 1), box(0, 2, 9, 3)), impl.ShapeResult{Boxes: boxes(box(-7, -3, 9, 3))}},
		{boxes(box(-m, -m, -m+1, -m+1), box(m-1, m-1, m, m)), impl.ShapeResult{Boxes: boxes(box(-m, -m, m, m))}},
		{boxesApart(impl.MaxBoxes, 5), impl.ShapeResult{Boxes: boxes(box(0, 5, 1, 304))}},
		{boxesApart(impl.MaxBoxes+1, 5), shapeCode(impl.ErrMany)},
		{boxes(box(0, 0, -1, 1)), shapeCode(impl.ErrForm)},
		{boxes(box(0, 0, 1, m+1)), shapeCode(impl.ErrRange)},
		{boxes(box(2, 0, 3, 1), box(0, 0, 1, 1)), shapeCode(impl.ErrForm)},
	}
	for _, c := range cases {
		checkShape(t, "bounds", impl.BoundsOf(c.s), c.want)
	}
}

func TestBoundsAreTheLeast(t *testing.T) {
	for _, s := range someShapes(80, 9) {
		bounds := impl.BoundsOf(s)
		if bounds.Code != impl.OK || (len(bounds.Boxes) == 0) != (len(s) == 0) {
			t.Fatalf("BoundsOf(%v) = %v", s, bounds)
		}
		checkShape(t, "all cells", impl.CombineShapes(impl.ShapeLess, s, bounds.Boxes), impl.ShapeResult{})
		for _, b := range bounds.Boxes {
			for _, less := range boxes(box(b.X0+1, b.Y0, b.X1, b.Y1), box(b.X0, b.Y0+1, b.X1, b.Y1), box(b.X0, b.Y0, b.X1-1, b.Y1), box(b.X0, b.Y0, b.X1, b.Y1-1)) {
				if impl.BoxFault(less) == impl.OK && len(impl.CombineShapes(impl.ShapeLess, s, boxes(less)).Boxes) == 0 {
					t.Errorf("%v has all cells of %v, and is less than %v", less, s, b)
				}
			}
		}
	}
}
