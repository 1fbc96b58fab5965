package tests

import (
	"fmt"
	"math"
	"math/rand"
	"slices"
	"testing"

	"loop.example/g00057/impl"
)

// cellSet tells whether a cell is one of a set; it is what the tests hold shapes against.
type cellSet func(x int64, y int64) bool

func box(x0 int64, y0 int64, x1 int64, y1 int64) impl.Box {
	return impl.Box{X0: x0, Y0: y0, X1: x1, Y1: y1}
}

func boxes(list ...impl.Box) []impl.Box {
	return list
}

func cellsOf(list []impl.Box) cellSet {
	return func(x int64, y int64) bool {
		return slices.ContainsFunc(list, func(b impl.Box) bool {
			return b.X0 <= x && x < b.X1 && b.Y0 <= y && y < b.Y1
		})
	}
}

// formOf is the one form of a set that does not change between two of the places across, nor between two upward.
func formOf(in cellSet, xs []int64, ys []int64) []impl.Box {
	var out, last []impl.Box
	for j := 0; j+1 < len(ys); j++ {
		var row []impl.Box
		for i := 0; i+1 < len(xs); i++ {
			switch {
			case !in(xs[i], ys[j]):
			case len(row) > 0 && row[len(row)-1].X1 == xs[i]:
				row[len(row)-1].X1 = xs[i+1]
			default:
				row = append(row, box(xs[i], ys[j], xs[i+1], ys[j+1]))
			}
		}
		same := slices.EqualFunc(row, last, func(a impl.Box, b impl.Box) bool { return a.X0 == b.X0 && a.X1 == b.X1 })
		if same {
			for i := range last {
				last[i].Y1 = ys[j+1]
			}
			continue
		}
		out = append(out, last...)
		last = row
	}
	return append(out, last...)
}

// placesOf are the places where a box of one of the lists begins or ends, by's distance to and fro.
func placesOf(by int64, lists ...[]impl.Box) (xs []int64, ys []int64) {
	for _, list := range lists {
		for _, b := range list {
			xs = append(xs, b.X0-by, b.X0+by, b.X1-by, b.X1+by)
			ys = append(ys, b.Y0-by, b.Y0+by, b.Y1-by, b.Y1+by)
		}
	}
	slices.Sort(xs)
	slices.Sort(ys)
	return slices.Compact(xs), slices.Compact(ys)
}

func formOfBoxes(list []impl.Box) []impl.Box {
	xs, ys := placesOf(0, list)
	return formOf(cellsOf(list), xs, ys)
}

func placesFrom(least int64, most int64) []int64 {
	var list []int64
	for n := least; n <= most; n++ {
		list = append(list, n)
	}
	return list
}

// unitBoxes are the cells of a frame of that width whose bits are set, from the last one to the first.
func unitBoxes(bits int, width int, cells int) []impl.Box {
	var list []impl.Box
	for i := cells - 1; i >= 0; i-- {
		if bits>>i&1 == 1 {
			x, y := int64(i%width), int64(i/width)
			list = append(list, box(x, y, x+1, y+1))
		}
	}
	return list
}

// someBoxes lie over one another in a small frame around 0; they are the same at every run.
func someBoxes(seed int64, n int, size int64) []impl.Box {
	chance := rand.New(rand.NewSource(seed))
	list := make([]impl.Box, 0, n)
	for range n {
		x, y := chance.Int63n(2*size)-size, chance.Int63n(2*size)-size
		list = append(list, box(x, y, min(size, x+1+chance.Int63n(5)), min(size, y+1+chance.Int63n(5))))
	}
	return list
}

// someShapes are in the one form by the tests' own reckoning.
func someShapes(n int, size int64) [][]impl.Box {
	list := [][]impl.Box{nil, boxes(box(0, 0, 1, 1)), boxes(box(-size, -size, size, size))}
	for i := range n {
		list = append(list, formOfBoxes(someBoxes(int64(i)+1, i%9, size)))
	}
	return list
}

// boxesApart are n boxes, each a band of its own, from that height on.
func boxesApart(n int, from int64) []impl.Box {
	list := make([]impl.Box, 0, n)
	for i := range int64(n) {
		list = append(list, box(0, from+2*i, 1, from+2*i+1))
	}
	return list
}

// ladder has n rungs and a bar; its one form has 2 n - 1 boxes, and one more for each end of the bar that stands out.
func ladder(n int64, below int64, above int64) []impl.Box {
	list := boxes(box(1, -below, 2, 2*n-1+above))
	for i := range n {
		list = append(list, box(0, 2*i, 3, 2*i+1))
	}
	return list
}

// ring has a hole of one cell.
func ring() []impl.Box {
	return boxes(box(0, 0, 3, 1), box(0, 1, 1, 2), box(2, 1, 3, 2), box(0, 2, 3, 3))
}

// edgePlaces stand at and beyond the bounds of chapter 2, and at the ends of int64.
func edgePlaces() []int64 {
	list := []int64{math.MinInt64, math.MinInt64 + 1, -2*impl.MaxPlace - 1, -2 * impl.MaxPlace, -impl.MaxPlace - 1, -impl.MaxPlace,
		-impl.MaxGrow - 1, -impl.MaxGrow, -1, 0, 1, impl.MaxGrow, impl.MaxGrow + 1, impl.MaxPlace, impl.MaxPlace + 1,
		2 * impl.MaxPlace, 2*impl.MaxPlace + 1, math.MaxInt64 - 1, math.MaxInt64}
	return list
}

// wildLists are right and wrong, short and long.
func wildLists() [][]impl.Box {
	chance := rand.New(rand.NewSource(2))
	edges := edgePlaces()
	pick := func() int64 { return edges[chance.Intn(len(edges))] }
	lists := [][]impl.Box{nil, {}, {{}}, ring(), ladder(75, 1, 0), ladder(75, 1, 1), boxesApart(impl.MaxBoxes, 0), boxesApart(impl.MaxBoxes+1, 0), make([]impl.Box, 1000)}
	for i := range 300 {
		list := make([]impl.Box, 0, 4)
		for range chance.Intn(4) {
			list = append(list, box(pick(), pick(), pick(), pick()))
		}
		lists = append(lists, list, someBoxes(int64(i), i%12, 6))
	}
	return append(lists, someShapes(60, 6)...)
}

// boxesFaultWant is the code of the boxes alone.
func boxesFaultWant(list []impl.Box) int64 {
	if len(list) > 150 {
		return impl.ErrMany
	}
	for _, b := range list {
		if b.X1 <= b.X0 || b.Y1 <= b.Y0 {
			return impl.ErrForm
		}
		if min(b.X0, b.Y0) < -10000 || max(b.X1, b.Y1) > 10000 {
			return impl.ErrRange
		}
	}
	return impl.OK
}

func shapeFaultWant(list []impl.Box) int64 {
	if code := boxesFaultWant(list); code != impl.OK {
		return code
	}
	if !slices.Equal(list, formOfBoxes(list)) {
		return impl.ErrForm
	}
	return impl.OK
}

// shapeWant is the answer where the form is known.
func shapeWant(form []impl.Box) impl.ShapeResult {
	if len(form) > 150 {
		return impl.ShapeResult{Code: impl.ErrMany}
	}
	return impl.ShapeResult{Boxes: form}
}

func shapeCode(code int64) impl.ShapeResult {
	return impl.ShapeResult{Code: code}
}

func sameShape(a impl.ShapeResult, b impl.ShapeResult) bool {
	return a.Code == b.Code && slices.Equal(a.Boxes, b.Boxes)
}

func checkShape(t *testing.T, what string, got impl.ShapeResult, want impl.ShapeResult) {
	t.Helper()
	if !sameShape(got, want) {
		t.Errorf("%s: code %d, %d boxes %s; want code %d, %d boxes %s", what, got.Code, len(got.Boxes), brief(got.Boxes), want.Code, len(want.Boxes), brief(want.Boxes))
	}
}

// brief tells the beginning of what may be long.
func brief(what any) string {
	return fmt.Sprintf("%.300s", fmt.Sprint(what))
}
