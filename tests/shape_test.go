package tests

import (
	"math"
	"slices"
	"testing"

	"loop.example/g00057/impl"
)

func TestBoxFault(t *testing.T) {
	const m = impl.MaxPlace
	cases := []struct {
		box  impl.Box
		want int64
	}{
		{box(0, 0, 1, 1), impl.OK},
		{box(-m, -m, m, m), impl.OK},
		{box(-m, -m, -m+1, -m+1), impl.OK},
		{box(m-1, m-1, m, m), impl.OK},
		{box(0, 0, 0, 1), impl.ErrForm},
		{box(0, 0, 1, 0), impl.ErrForm},
		{box(1, 0, 0, 1), impl.ErrForm},
		{box(0, 1, 1, 0), impl.ErrForm},
		{impl.Box{}, impl.ErrForm},
		{box(-m-1, 0, 1, 1), impl.ErrRange},
		{box(0, -m-1, 1, 1), impl.ErrRange},
		{box(0, 0, m+1, 1), impl.ErrRange},
		{box(0, 0, 1, m+1), impl.ErrRange},
		{box(-m-1, 1, 1, 1), impl.ErrForm},
		{box(m+2, 0, m+1, 1), impl.ErrForm},
		{box(0, 0, m+1, 0), impl.ErrForm},
		{box(math.MinInt64, math.MinInt64, math.MaxInt64, math.MaxInt64), impl.ErrRange},
		{box(math.MaxInt64, 0, math.MinInt64, 1), impl.ErrForm},
		{box(0, math.MinInt64, 1, math.MinInt64), impl.ErrForm},
	}
	for _, c := range cases {
		if got := impl.BoxFault(c.box); got != c.want {
			t.Errorf("BoxFault(%v) = %d, want %d", c.box, got, c.want)
		}
	}
}

func TestBoxFaultAtEveryEdge(t *testing.T) {
	edges := edgePlaces()
	for _, x0 := range edges {
		for _, y0 := range edges {
			for _, x1 := range edges {
				for _, y1 := range edges {
					b := box(x0, y0, x1, y1)
					if got, want := impl.BoxFault(b), boxesFaultWant(boxes(b)); got != want {
						t.Fatalf("BoxFault(%v) = %d, want %d", b, got, want)
					}
				}
			}
		}
	}
}

// unformed are lists that are not in the one form, though their boxes are right.
func unformed() map[string][]impl.Box {
	return map[string][]impl.Box{
		"a band in another order":             boxes(box(2, 0, 3, 1), box(0, 0, 1, 1)),
		"bands in another order":              boxes(box(0, 2, 1, 3), box(0, 0, 1, 1)),
		"two runs that touch":                 boxes(box(0, 0, 1, 1), box(1, 0, 2, 1)),
		"runs over one another":               boxes(box(0, 0, 2, 1), box(1, 0, 3, 1)),
		"one box twice":                       boxes(box(0, 0, 1, 1), box(0, 0, 1, 1)),
		"touching bands of the same run":      boxes(box(0, 0, 1, 1), box(0, 1, 1, 2)),
		"touching bands of the same runs":     boxes(box(0, 0, 1, 1), box(2, 0, 3, 1), box(0, 1, 1, 4), box(2, 1, 3, 4)),
		"the third band goes on":              boxes(box(0, 0, 1, 1), box(0, 1, 2, 2), box(0, 2, 2, 3)),
		"bands with a row in common":          boxes(box(0, 0, 1, 2), box(2, 1, 3, 3)),
		"bands over one another":              boxes(box(0, 0, 1, 2), box(0, 1, 1, 3)),
		"a band of two heights":               boxes(box(0, 0, 1, 1), box(2, 0, 3, 2)),
		"a band of two heights, the other":    boxes(box(0, 0, 1, 2), box(2, 0, 3, 1)),
		"a box within a box":                  boxes(box(0, 0, 5, 5), box(1, 1, 2, 2)),
		"the ring by columns":                 boxes(box(0, 0, 1, 3), box(1, 0, 2, 1), box(1, 2, 2, 3), box(2, 0, 3, 3)),
		"an early fault in a long row":        boxes(box(0, 0, 1, 1), box(1, 0, 2, 1), box(3, 0, 4, 1), box(5, 0, 6, 1)),
		"a late fault in a long row":          boxes(box(0, 0, 1, 1), box(2, 0, 3, 1), box(4, 0, 5, 1), box(5, 0, 6, 1)),
		"a row below behind two above it":     boxes(box(0, 2, 1, 3), box(0, 4, 1, 5), box(0, 0, 1, 1)),
		"a row that is met again":             boxes(box(0, 0, 1, 1), box(0, 2, 1, 3), box(2, 0, 3, 1)),
		"the whole plane of places in halves": boxes(box(-10000, -10000, 0, 10000), box(0, -10000, 10000, 10000)),
	}
}

func TestWhatIsNotInTheOneForm(t *testing.T) {
	for name, list := range unformed() {
		if got := impl.ShapeFault(list); got != impl.ErrForm {
			t.Errorf("%s: ShapeFault is %d", name, got)
		}
		checkShape(t, name, impl.ShapeOf(list), shapeWant(formOfBoxes(list)))
		if got := impl.ShapeFault(impl.ShapeOf(list).Boxes); got != impl.OK {
			t.Errorf("%s: the ShapeFault of its ShapeOf is %d", name, got)
		}
	}
}

func TestWhatIsInTheOneForm(t *testing.T) {
	const m = impl.MaxPlace
	lists := [][]impl.Box{
		nil, {},
		boxes(box(-m, -m, m, m)),
		boxes(box(0, 0, 1, 1), box(2, 0, 3, 1)),
		boxes(box(0, 0, 1, 1), box(0, 2, 1, 3)),
		boxes(box(0, 0, 1, 1), box(1, 1, 2, 2)),
		boxes(box(0, 0, 2, 1), box(0, 1, 1, 2)),
		boxes(box(0, 0, 1, 1), box(0, 1, 1, 2), box(2, 1, 3, 2)),
		boxes(box(0, 0, 1, 1), box(2, 0, 3, 1), box(0, 1, 1, 2)),
		boxes(box(5, 0, 6, 1), box(-3, 1, -2, 2)),
		boxes(box(-m, -m, -m+1, -m+1), box(m-1, m-1, m, m)),
		ring(), boxesApart(impl.MaxBoxes, -m), boxesApart(impl.MaxBoxes, 0),
	}
	for _, list := range lists {
		if got := impl.ShapeFault(list); got != impl.OK {
			t.Errorf("ShapeFault(%.200v) = %d", list, got)
		}
		checkShape(t, "a shape of a shape", impl.ShapeOf(list), impl.ShapeResult{Boxes: list})
	}
}

// smallBoxes are all boxes of a frame of that side.
func smallBoxes(side int64) []impl.Box {
	var list []impl.Box
	for x0 := range side {
		for x1 := x0 + 1; x1 <= side; x1++ {
			for y0 := range side {
				for y1 := y0 + 1; y1 <= side; y1++ {
					list = append(list, box(x0, y0, x1, y1))
				}
			}
		}
	}
	return list
}

// eachList calls do with every list of n of the boxes.
func eachList(n int, from []impl.Box, do func(list []impl.Box)) {
	list := make([]impl.Box, n)
	var fill func(i int)
	fill = func(i int) {
		if i == n {
			do(list)
			return
		}
		for _, b := range from {
			list[i] = b
			fill(i + 1)
		}
	}
	fill(0)
}

func TestEverySmallListHasOneForm(t *testing.T) {
	check := func(list []impl.Box) {
		form := formOfBoxes(list)
		want := int64(impl.ErrForm)
		if slices.Equal(form, list) {
			want = impl.OK
		}
		if got := impl.ShapeFault(list); got != want {
			t.Fatalf("ShapeFault(%v) = %d, want %d", list, got, want)
		}
		if got := impl.ShapeOf(list); !sameShape(got, shapeWant(form)) {
			t.Fatalf("ShapeOf(%v) = %v, want %v", list, got, form)
		}
	}
	for n := range 3 {
		eachList(n, smallBoxes(3), check)
	}
	eachList(3, smallBoxes(3), check)
	eachList(4, smallBoxes(2), check)
}

func TestOneSetHasOneForm(t *testing.T) {
	for bits := range 1 << 12 {
		units := unitBoxes(bits, 4, 12)
		want := shapeWant(formOf(cellsOf(units), placesFrom(0, 4), placesFrom(0, 3)))
		got := impl.ShapeOf(units)
		if !sameShape(got, want) || impl.ShapeFault(got.Boxes) != impl.OK {
			t.Fatalf("ShapeOf(%v) = %v, want %v", units, got, want)
		}
		slices.Reverse(units)
		if !sameShape(impl.ShapeOf(append(units, got.Boxes...)), want) {
			t.Fatalf("the cells of %v have two forms", units)
		}
	}
}

func TestShapesOfManyBoxes(t *testing.T) {
	for i := range 40 {
		list := someBoxes(int64(i), impl.MaxBoxes, int64(4+i))
		checkShape(t, "boxes over one another", impl.ShapeOf(list), shapeWant(formOfBoxes(list)))
	}
}

func TestFaultsAreToldInOrder(t *testing.T) {
	const m = impl.MaxPlace
	far, flat, both := box(0, 0, m+1, 1), box(0, 0, 0, 1), box(m+1, 0, m+1, 1)
	full := boxesApart(impl.MaxBoxes, 0)
	cases := []struct {
		name string
		list []impl.Box
		want int64
	}{
		{"none", nil, impl.OK},
		{"as many as may be", full, impl.OK},
		{"one more", boxesApart(impl.MaxBoxes+1, 0), impl.ErrMany},
		{"one more, and the first one flat", append(boxes(flat), full...), impl.ErrMany},
		{"one more, and the last one far", append(slices.Clone(full), far), impl.ErrMany},
		{"many of no width", make([]impl.Box, impl.MaxBoxes+1), impl.ErrMany},
		{"as many as may be, the first one far", append(boxes(far), full[1:]...), impl.ErrRange},
		{"as many as may be, the last one far", append(slices.Clone(full[1:]), far), impl.ErrRange},
		{"as many as may be, the last one flat", append(slices.Clone(full[1:]), flat), impl.ErrForm},
		{"flat, then far", boxes(flat, far), impl.ErrForm},
		{"far, then flat", boxes(far, flat), impl.ErrRange},
		{"right, far, flat", boxes(box(0, 0, 1, 1), far, flat), impl.ErrRange},
		{"both in one", boxes(both, far), impl.ErrForm},
		{"both in the second one", boxes(far, both), impl.ErrRange},
		{"not in the one form, then far", boxes(box(0, 0, 1, 1), box(0, 0, 1, 1), far), impl.ErrRange},
	}
	for _, c := range cases {
		if got := impl.ShapeFault(c.list); got != c.want {
			t.Errorf("%s: ShapeFault is %d, want %d", c.name, got, c.want)
		}
		if got := impl.ShapeOf(c.list); got.Code != c.want || c.want != impl.OK && len(got.Boxes) > 0 {
			t.Errorf("%s: ShapeOf is %.100v, want the code %d", c.name, got, c.want)
		}
	}
}

func TestShapeOfWithTooManyBoxes(t *testing.T) {
	if got := impl.ShapeOf(ladder(75, 1, 0)); got.Code != impl.OK || len(got.Boxes) != impl.MaxBoxes {
		t.Errorf("a form of %d boxes has the code %d and %d boxes", impl.MaxBoxes, got.Code, len(got.Boxes))
	}
	checkShape(t, "one more", impl.ShapeOf(ladder(75, 1, 1)), shapeCode(impl.ErrMany))
	var grate []impl.Box
	for i := range int64(75) {
		grate = append(grate, box(2*i, 0, 2*i+1, 150), box(0, 2*i, 150, 2*i+1))
	}
	checkShape(t, "a grate", impl.ShapeOf(grate), shapeCode(impl.ErrMany))
	if got := impl.ShapeOf(append(ladder(75, 1, 1), grate...)); got.Code != impl.ErrMany {
		t.Errorf("too many of too many have the code %d", got.Code)
	}
	// Too many boxes that are all one: what comes out may be few.
	checkShape(t, "one box over and over", impl.ShapeOf(slices.Repeat(boxes(box(1, 2, 3, 4)), impl.MaxBoxes)), impl.ShapeResult{Boxes: boxes(box(1, 2, 3, 4))})
}
