package tests

import (
	"math"
	"math/rand"
	"slices"
	"testing"

	"loop.example/g00057/impl"
)

func fill(area impl.Box, size int64, pitch int64, space int64, keep ...impl.Box) fillAsk {
	return fillAsk{area: area, keep: keep, size: size, pitch: pitch, space: space}
}

func TestFillsByHand(t *testing.T) {
	five := box(0, 0, 5, 3)
	cases := []struct {
		name string
		q    fillAsk
		want []impl.Box
	}{
		{"no keep", fill(five, 1, 2, 1), boxes(box(0, 0, 1, 1), box(2, 0, 3, 1), box(4, 0, 5, 1), box(0, 2, 1, 3), box(2, 2, 3, 3), box(4, 2, 5, 3))},
		{"a keep at the corner", fill(five, 1, 2, 1, box(0, 0, 1, 1)), boxes(box(2, 0, 3, 1), box(4, 0, 5, 1), box(0, 2, 1, 3), box(2, 2, 3, 3), box(4, 2, 5, 3))},
		{"a keep in the middle", fill(five, 1, 2, 1, box(1, 1, 2, 2)), boxes(box(4, 0, 5, 1), box(4, 2, 5, 3))},
		{"all kept", fill(five, 1, 2, 0, five), nil},
		{"all but one cell kept", fill(five, 1, 2, 0, box(0, 0, 5, 2), box(0, 2, 4, 3)), boxes(box(4, 2, 5, 3))},
		{"one square alone", fill(box(-3, 4, -1, 6), 2, 2, 1000), boxes(box(-3, 4, -1, 6))},
		{"too narrow", fill(box(-3, 4, -2, 60), 2, 2, 0), nil},
		{"too low", fill(box(-3, 4, 60, 5), 2, 2, 0), nil},
		{"the last one ends at the edge", fill(box(10, 10, 17, 12), 2, 5, 0), boxes(box(10, 10, 12, 12), box(15, 10, 17, 12))},
		{"the last one would end a cell beyond", fill(box(10, 10, 16, 12), 2, 5, 0), boxes(box(10, 10, 12, 12))},
		{"upward: ends at the edge", fill(box(10, 10, 12, 17), 2, 5, 0), boxes(box(10, 10, 12, 12), box(10, 15, 12, 17))},
		{"upward: a cell beyond", fill(box(10, 10, 12, 16), 2, 5, 0), boxes(box(10, 10, 12, 12))},
		{"they touch: one box", fill(box(0, 0, 7, 5), 2, 2, 0), boxes(box(0, 0, 6, 4))},
		{"they touch around a keep", fill(box(0, 0, 3, 3), 1, 1, 0, box(1, 1, 2, 2)), ring()},
		{"they touch, a row is kept", fill(box(0, 0, 2, 6), 2, 2, 0, box(1, 3, 2, 4)), boxes(box(0, 0, 2, 2), box(0, 4, 2, 6))},
		{"keep outside, far", fill(box(0, 0, 2, 2), 2, 2, 3, box(5, 0, 6, 2)), boxes(box(0, 0, 2, 2))},
		{"keep outside, near", fill(box(0, 0, 2, 2), 2, 2, 4, box(5, 0, 6, 2)), nil},
	}
	for _, c := range cases {
		checkFill(t, c.name, c.q, impl.ShapeResult{Boxes: c.want})
		checkFill(t, c.name+", by the plain reckoning", c.q, fillWant(c.q))
	}
}

// A square of two cells' side with one cell of keep beside it, as near as space and one further.
func TestFillsKeepAway(t *testing.T) {
	square := box(0, 0, 2, 2)
	dot := func(x int64, y int64) impl.Box { return box(x, y, x+1, y+1) }
	for _, space := range numbers(0, 1, 2, 5, 999, 1000) {
		near, far := 1+space, 2+space
		for _, at := range [][2]int64{{near, 0}, {near, 1}, {-space, 0}, {-space, 1}, {0, near}, {1, near}, {0, -space}, {1, -space}, {near, near}, {near, -space}, {-space, near}, {-space, -space}} {
			checkFill(t, "as near as space", fill(square, 2, 3, space, dot(at[0], at[1])), impl.ShapeResult{})
		}
		for _, at := range [][2]int64{{far, 0}, {far, 1}, {-1 - space, 0}, {0, far}, {1, far}, {0, -1 - space}, {far, far}, {far, near}, {near, far}, {-1 - space, near}, {-1 - space, -1 - space}, {-space, -1 - space}} {
			checkFill(t, "one further", fill(square, 2, 3, space, dot(at[0], at[1])), impl.ShapeResult{Boxes: boxes(square)})
		}
	}
}

// Near the ends of all places the squares reach further than a box may.
func TestFillsAtTheEndsOfPlaces(t *testing.T) {
	all := box(-10000, -10000, 10000, 10000)
	corner := box(9000, 9000, 10000, 10000)
	cases := []struct {
		name string
		q    fillAsk
		want impl.ShapeResult
	}{
		{"all places, far apart", fill(all, 1000, 1000, 0), shapeCode(impl.ErrMany)},
		{"all places, single cells", fill(all, 1, 1, 0), shapeCode(impl.ErrMany)},
		{"all places, all kept", fill(all, 1, 1, 0, all), shapeCode(impl.ErrMany)},
		{"a long row", fill(box(-10000, 0, 10000, 1000), 1000, 1000, 1000), impl.ShapeResult{Boxes: boxes(box(-10000, 0, 10000, 1000))}},
		{"a long column", fill(box(0, -10000, 1000, 10000), 1000, 1000, 1000), impl.ShapeResult{Boxes: boxes(box(0, -10000, 1000, 10000))}},
		{"a thin row", fill(box(-10000, 0, 10000, 1), 1, 1, 0), shapeCode(impl.ErrMany)},
		{"the last corner", fill(corner, 1000, 1000, 1000, box(7999, 7999, 8000, 8000)), impl.ShapeResult{Boxes: boxes(corner)}},
		{"the last corner, kept", fill(corner, 1000, 1000, 1000, box(8000, 8000, 8001, 8001)), impl.ShapeResult{}},
		{"the first corner", fill(box(-10000, -10000, -9000, -9000), 1000, 1000, 1000, box(-8000, -8001, -7999, -7999)), impl.ShapeResult{Boxes: boxes(box(-10000, -10000, -9000, -9000))}},
		{"the first corner, kept", fill(box(-10000, -10000, -9000, -9000), 1000, 1000, 1000, box(-8001, -8001, -8000, -8000)), impl.ShapeResult{}},
	}
	for _, c := range cases {
		checkFill(t, c.name, c.q, c.want)
	}
}

// Just as many squares as a shape may have boxes, and one more, whatever is kept.
func TestFillsAsManyAsMayBe(t *testing.T) {
	for _, n := range []int64{1, 2, 3, 5, 10, 15, 30, 50, 75, 150} {
		across := 150 / n
		for _, pitch := range numbers(2, 3, 5) {
			area := box(-7, 9, -7+(across-1)*pitch+2, 9+(n-1)*pitch+2)
			got := fill(area, 2, pitch, 0).call()
			if got.Code != impl.OK || pitch > 2 && len(got.Boxes) != 150 || pitch == 2 && len(got.Boxes) != 1 {
				t.Errorf("150 squares in %v, each %d: code %d, %d boxes", area, pitch, got.Code, len(got.Boxes))
			}
			checkFill(t, "just 150", fill(area, 2, pitch, 1, box(0, 10, 1, 11)), fillWant(fill(area, 2, pitch, 1, box(0, 10, 1, 11))))
			wider, higher := area, area
			wider.X1, higher.Y1 = area.X1+pitch, area.Y1+pitch
			for _, more := range boxes(wider, higher) {
				checkFill(t, "more than 150", fill(more, 2, pitch, 0), shapeCode(impl.ErrMany))
				checkFill(t, "more than 150, all kept", fill(more, 2, pitch, 0, more), shapeCode(impl.ErrMany))
			}
			wider.X1, higher.Y1 = wider.X1-1, higher.Y1-1
			for _, same := range boxes(wider, higher) {
				checkFill(t, "just 150, with cells left over", fill(same, 2, pitch, 0), got)
			}
		}
	}
	checkFill(t, "151 in a row", fill(box(0, 0, 151, 1), 1, 1, 0), shapeCode(impl.ErrMany))
	checkFill(t, "151 in a row, none of which stays", fill(box(0, 0, 151, 1), 1, 1, 1000, box(70, 0, 71, 1)), shapeCode(impl.ErrMany))
	checkFill(t, "150 in a row, none of which stays", fill(box(0, 0, 150, 1), 1, 1, 1000, box(70, 0, 71, 1)), impl.ShapeResult{})
}

func TestFillsWithNumbersAtTheEdges(t *testing.T) {
	ends := append(edgePlaces(), 2, 3, 999)
	area := box(0, 0, 3000, 40)
	for _, size := range ends {
		for _, pitch := range ends {
			for _, space := range ends {
				q := fill(area, size, pitch, space, box(1500, 10, 1501, 11))
				checkFill(t, "edges", q, fillWant(q))
			}
		}
	}
	for _, c := range []struct {
		size, pitch, space, code int64
	}{
		{0, 1, 0, impl.ErrRange}, {1, 1, 0, impl.OK}, {1000, 1000, 0, impl.OK}, {1001, 1001, 0, impl.ErrRange}, {1000, 1001, 0, impl.ErrRange},
		{1000, 999, 0, impl.ErrRange}, {2, 1, 0, impl.ErrRange}, {2, 2, 0, impl.OK}, {1, 0, 0, impl.ErrRange}, {0, 0, 0, impl.ErrRange}, {-1, 1, 0, impl.ErrRange},
		{1, 1, -1, impl.ErrRange}, {1, 1, 1000, impl.OK}, {1, 1, 1001, impl.ErrRange}, {1, math.MaxInt64, 0, impl.ErrRange}, {math.MinInt64, 1, 0, impl.ErrRange},
		{math.MinInt64, math.MaxInt64, 0, impl.ErrRange}, {1, 1, math.MaxInt64, impl.ErrRange}, {1, 1, math.MinInt64, impl.ErrRange},
	} {
		if got := fill(box(0, 0, 2, 2), c.size, c.pitch, c.space).call(); got.Code != c.code {
			t.Errorf("size %d, pitch %d, space %d: code %d, want %d", c.size, c.pitch, c.space, got.Code, c.code)
		}
	}
}

// fillSpoils stand in the order in which the chapter tells them: each is asked ahead of those behind it.
func fillSpoils() []struct {
	code  int64
	spoil func(q *fillAsk)
} {
	faulty := faultyShapes()
	return []struct {
		code  int64
		spoil func(q *fillAsk)
	}{
		{impl.ErrForm, func(q *fillAsk) { q.area.X1 = q.area.X0 }},
		{impl.ErrForm, func(q *fillAsk) { q.area.Y1 = q.area.Y0 - 1 }},
		{impl.ErrRange, func(q *fillAsk) { q.area.X0 = -10001 }},
		{impl.ErrRange, func(q *fillAsk) { q.area.Y1 = math.MaxInt64 }},
		{impl.ErrMany, func(q *fillAsk) { q.keep = faulty[impl.ErrMany] }},
		{impl.ErrRange, func(q *fillAsk) { q.keep = faulty[impl.ErrRange] }},
		{impl.ErrForm, func(q *fillAsk) { q.keep = faulty[impl.ErrForm] }},
		{impl.ErrRange, func(q *fillAsk) { q.size = 0 }},
		{impl.ErrRange, func(q *fillAsk) { q.pitch = 1001 }},
		{impl.ErrRange, func(q *fillAsk) { q.size = q.pitch + 1 }},
		{impl.ErrRange, func(q *fillAsk) { q.space = -1 }},
		{impl.ErrMany, func(q *fillAsk) { q.area.X1, q.area.Y1 = q.area.X0+151, q.area.Y0+151 }},
	}
}

func TestFillsWithTwoFaults(t *testing.T) {
	right := fill(box(0, 0, 20, 20), 1, 2, 1, box(3, 3, 4, 4))
	checkFill(t, "right", right, fillWant(right))
	for i, first := range fillSpoils() {
		alone := right
		first.spoil(&alone)
		checkFill(t, "one fault", alone, shapeCode(first.code))
		for j := range fillSpoils() {
			both := right
			fillSpoils()[max(i, j)].spoil(&both)
			fillSpoils()[min(i, j)].spoil(&both)
			checkFill(t, "two faults", both, fillWant(both))
			if i < 4 && j >= 4 && j < 11 {
				checkFill(t, "area first", both, shapeCode(first.code))
			}
			if i >= 4 && i < 7 && j >= 7 {
				checkFill(t, "keep ahead of the numbers", both, shapeCode(first.code))
			}
			if i >= 7 && i < 11 && j == 11 {
				checkFill(t, "numbers ahead of the count", both, shapeCode(first.code))
			}
		}
	}
}

// fillCells is the chapter's words cell by cell: a square stays if no cell around it, as far as space, is kept.
func fillCells(q fillAsk) []impl.Box {
	kept := cellsOf(q.keep)
	var squares []impl.Box
	for y := q.area.Y0; y+q.size <= q.area.Y1; y += q.pitch {
		for x := q.area.X0; x+q.size <= q.area.X1; x += q.pitch {
			free := true
			for cy := y - q.space; cy < y+q.size+q.space; cy++ {
				for cx := x - q.space; cx < x+q.size+q.space; cx++ {
					free = free && !kept(cx, cy)
				}
			}
			if free {
				squares = append(squares, box(x, y, x+q.size, y+q.size))
			}
		}
	}
	return formOf(cellsOf(squares), placesFrom(q.area.X0, q.area.X1), placesFrom(q.area.Y0, q.area.Y1))
}

// Every keep in a frame of four by three cells.
func TestFillsOfSmallFrames(t *testing.T) {
	for bits := range 1 << 12 {
		keep := formOfBoxes(unitBoxes(bits, 4, 12))
		for i, area := range boxes(box(0, 0, 4, 3), box(-1, 1, 5, 4), box(1, -2, 3, 5)) {
			size := int64(1 + (bits+i)%2)
			pitch := size + int64(bits/2%3)
			q := fill(area, size, pitch, int64(bits/3%3), keep...)
			checkFill(t, "a small frame", q, impl.ShapeResult{Boxes: fillCells(q)})
		}
	}
}

func TestFillsAgainstThePlainReckoning(t *testing.T) {
	chance := rand.New(rand.NewSource(6))
	for i, keep := range someShapes(400, 9) {
		x, y := chance.Int63n(16)-12, chance.Int63n(16)-12
		size := 1 + chance.Int63n(4)
		q := fill(box(x, y, x+1+chance.Int63n(20), y+1+chance.Int63n(20)), size, size+chance.Int63n(4)*int64(i%3), chance.Int63n(5)*int64(i%2), keep...)
		checkFill(t, "by distances", q, fillWant(q))
		if got := q.call(); got.Code == impl.OK {
			checkFill(t, "cell by cell", q, impl.ShapeResult{Boxes: fillCells(q)})
			if impl.ShapeFault(got.Boxes) != impl.OK {
				t.Errorf("%s: not in the one form, %s", brief(q), brief(got.Boxes))
			}
		}
	}
}

func TestPiecesByHand(t *testing.T) {
	two := boxes(box(0, 0, 5, 1), box(1, 1, 4, 3))
	cases := []struct {
		name string
		s    []impl.Box
		most int64
		want []impl.Box
	}{
		{"none", nil, 1, nil},
		{"one cell", boxes(box(3, 4, 4, 5)), 1, boxes(box(3, 4, 4, 5))},
		{"cut even", boxes(box(0, 0, 4, 4)), 2, boxes(box(0, 0, 2, 2), box(2, 0, 4, 2), box(0, 2, 2, 4), box(2, 2, 4, 4))},
		{"a rest both ways", boxes(box(-1, -1, 4, 2)), 2, boxes(box(-1, -1, 1, 1), box(1, -1, 3, 1), box(3, -1, 4, 1), box(-1, 1, 1, 2), box(1, 1, 3, 2), box(3, 1, 4, 2))},
		{"a rest across", boxes(box(0, 0, 5, 2)), 2, boxes(box(0, 0, 2, 2), box(2, 0, 4, 2), box(4, 0, 5, 2))},
		{"a rest upward", boxes(box(0, 0, 2, 5)), 2, boxes(box(0, 0, 2, 2), box(0, 2, 2, 4), box(0, 4, 2, 5))},
		{"as wide as most", boxes(box(0, 0, 3, 3)), 3, boxes(box(0, 0, 3, 3))},
		{"less wide than most", boxes(box(0, 0, 3, 3)), 4, boxes(box(0, 0, 3, 3))},
		{"box by box", two, 2, boxes(box(0, 0, 2, 1), box(2, 0, 4, 1), box(4, 0, 5, 1), box(1, 1, 3, 3), box(3, 1, 4, 3))},
		{"boxes side by side", boxes(box(0, 0, 2, 2), box(3, 0, 5, 2)), 1, boxes(box(0, 0, 1, 1), box(1, 0, 2, 1), box(0, 1, 1, 2), box(1, 1, 2, 2), box(3, 0, 4, 1), box(4, 0, 5, 1), box(3, 1, 4, 2), box(4, 1, 5, 2))},
	}
	for _, c := range cases {
		checkPieces(t, c.name, c.s, c.most, impl.ShapeResult{Boxes: c.want})
		checkPieces(t, c.name+", by the plain reckoning", c.s, c.most, fractureWant(c.s, c.most))
	}
}

func TestPiecesAtTheEdges(t *testing.T) {
	all := boxes(box(-10000, -10000, 10000, 10000))
	wide, high := boxes(box(-10000, 0, 10000, 1)), boxes(box(0, -10000, 1, 10000))
	faulty := faultyShapes()
	cases := []struct {
		name string
		s    []impl.Box
		most int64
		code int64
	}{
		{"most 0", ring(), 0, impl.ErrRange}, {"most 1", ring(), 1, impl.OK}, {"most below 0", ring(), -1, impl.ErrRange},
		{"the greatest most", ring(), 1000, impl.OK}, {"one more", ring(), 1001, impl.ErrRange},
		{"the least number", ring(), math.MinInt64, impl.ErrRange}, {"the greatest number", ring(), math.MaxInt64, impl.ErrRange},
		{"nothing, most 0", nil, 0, impl.ErrRange}, {"nothing, most 1001", nil, 1001, impl.ErrRange},
		{"all places, most 1", all, 1, impl.ErrMany}, {"all places, most 1000", all, 1000, impl.ErrMany}, {"all places, most 0", all, 0, impl.ErrRange},
		{"the widest box", wide, 1, impl.ErrMany}, {"the highest box", high, 1, impl.ErrMany},
		{"the widest box in 150", wide, 134, impl.OK}, {"the widest box in 151", wide, 133, impl.ErrMany},
		{"the highest box in 150", high, 134, impl.OK}, {"the highest box in 151", high, 133, impl.ErrMany},
		{"150 in a row", boxes(box(0, 0, 150, 1)), 1, impl.OK}, {"151 in a row", boxes(box(0, 0, 151, 1)), 1, impl.ErrMany},
		{"15 by 10", boxes(box(0, 0, 30, 20)), 2, impl.OK}, {"16 by 10", boxes(box(0, 0, 31, 20)), 2, impl.ErrMany}, {"15 by 11", boxes(box(0, 0, 30, 21)), 2, impl.ErrMany},
		{"150 boxes", boxesApart(150, 0), 1, impl.OK}, {"150 boxes, one of them cut", append(boxesApart(149, 0), box(0, 298, 2, 299)), 1, impl.ErrMany},
		{"74 boxes cut in two, and two more", slices.Concat(boxesApart(1, 0), twice(boxesApart(74, 2)), boxes(box(0, 150, 1, 151))), 1, impl.OK},
		{"75 boxes cut in two, and one more", slices.Concat(boxesApart(1, 0), twice(boxesApart(74, 2)), boxes(box(0, 150, 2, 151))), 1, impl.ErrMany},
		{"too many boxes", faulty[impl.ErrMany], 0, impl.ErrMany}, {"a box beyond", faulty[impl.ErrRange], 0, impl.ErrRange}, {"not the one form", faulty[impl.ErrForm], 0, impl.ErrForm},
		{"not the one form, most right", faulty[impl.ErrForm], 1, impl.ErrForm},
	}
	for _, c := range cases {
		got := impl.Fracture(c.s, c.most)
		if got.Code != c.code {
			t.Errorf("%s, cut every %d: code %d, want %d", c.name, c.most, got.Code, c.code)
		}
		checkPieces(t, c.name, c.s, c.most, fractureWant(c.s, c.most))
	}
}

// twice has boxes of one cell with a second one to the right.
func twice(list []impl.Box) []impl.Box {
	out := slices.Clone(list)
	for i := range out {
		out[i].X1++
	}
	return out
}

// checkCovered asks for the shape's cells, each in just one piece, in pieces that are no longer than most.
func checkCovered(t *testing.T, s []impl.Box, most int64, pieces []impl.Box) {
	t.Helper()
	count := map[[2]int64]int{}
	for _, p := range pieces {
		if p.X1-p.X0 > most || p.Y1-p.Y0 > most || p.X0 >= p.X1 || p.Y0 >= p.Y1 {
			t.Fatalf("%s, cut every %d, has the piece %v", brief(s), most, p)
		}
		for x := p.X0; x < p.X1; x++ {
			for y := p.Y0; y < p.Y1; y++ {
				count[[2]int64{x, y}]++
			}
		}
	}
	cells := 0
	for _, b := range s {
		for x := b.X0; x < b.X1; x++ {
			for y := b.Y0; y < b.Y1; y++ {
				cells++
				if count[[2]int64{x, y}] != 1 {
					t.Fatalf("%s, cut every %d: the cell %d %d is in %d pieces", brief(s), most, x, y, count[[2]int64{x, y}])
				}
			}
		}
	}
	if len(count) != cells {
		t.Fatalf("%s, cut every %d: the pieces have %d cells, the shape %d", brief(s), most, len(count), cells)
	}
}

// Every shape in a frame of four by three cells, and greater ones.
func TestPiecesCoverExactly(t *testing.T) {
	var list [][]impl.Box
	for bits := range 1 << 12 {
		list = append(list, formOfBoxes(unitBoxes(bits, 4, 12)))
	}
	for _, s := range append(list, someShapes(300, 10)...) {
		for most := int64(1); most <= 5; most++ {
			got := impl.Fracture(s, most)
			if !sameShape(got, fractureWant(s, most)) {
				t.Fatalf("%s, cut every %d: %s", brief(s), most, brief(got))
			}
			if got.Code != impl.OK {
				continue
			}
			checkCovered(t, s, most, got.Boxes)
			if len(got.Boxes) <= impl.MaxShots && impl.CheckShots(shotsOf(got.Boxes, 1), s) != impl.OK {
				t.Fatalf("the pieces of %s, cut every %d, are not its shots", brief(s), most)
			}
			if formed := impl.ShapeOf(got.Boxes); !sameShape(formed, impl.ShapeResult{Boxes: s}) {
				t.Fatalf("the pieces of %s, cut every %d, are %s", brief(s), most, brief(formed))
			}
		}
	}
}
