package tests

import (
	"math"
	"math/rand"
	"slices"
	"strconv"
	"testing"

	"loop.example/g00057/impl"
)

func checkPut(t *testing.T, p impl.Place, i int64, j int64, b impl.Box) {
	t.Helper()
	if got, want := impl.PutBox(p, i, j, b), putWant(p, i, j, b); got != want {
		t.Errorf("PutBox(%v, %d, %d, %v) = %v, want %v", p, i, j, b, got, want)
	}
}

func TestPutBoxByHand(t *testing.T) {
	b := box(1, 2, 4, 9)
	cases := []struct {
		turn int64
		flip bool
		want impl.Box
	}{
		{0, false, box(1, 2, 4, 9)}, {1, false, box(-9, 1, -2, 4)}, {2, false, box(-4, -9, -1, -2)}, {3, false, box(2, -4, 9, -1)},
		{0, true, box(-4, 2, -1, 9)}, {1, true, box(-9, -4, -2, -1)}, {2, true, box(1, -9, 4, -2)}, {3, true, box(2, 1, 9, 4)},
	}
	for _, c := range cases {
		for _, more := range []int64{0, 4, -4, 400, -400, 1 << 62, -(1 << 62), math.MinInt64} {
			p := impl.Place{Turn: c.turn + more, Flip: c.flip}
			if got := impl.PutBox(p, 0, 0, b); got != c.want {
				t.Errorf("PutBox of Turn %d, Flip %v: %v, want %v", p.Turn, p.Flip, got, c.want)
			}
		}
	}
}

// The way is neither mirrored nor turned; a column goes across, a row upward.
func TestPutBoxGoesItsWay(t *testing.T) {
	for turn := range int64(4) {
		for _, flip := range []bool{false, true} {
			p := impl.Place{Cell: "any", X: 100, Y: 1000, Turn: turn, Flip: flip, Nx: 1, Ny: 1, Dx: 7, Dy: 50}
			at := impl.PutBox(impl.Place{Turn: turn, Flip: flip}, 5, 6, box(0, 0, 2, 3))
			want := box(at.X0+100+14, at.Y0+1000+150, at.X1+100+14, at.Y1+1000+150)
			if got := impl.PutBox(p, 2, 3, box(0, 0, 2, 3)); got != want {
				t.Errorf("PutBox of %v in column 2, row 3: %v, want %v", p, got, want)
			}
		}
	}
}

func TestPutBoxOfAnyNumbers(t *testing.T) {
	chance := rand.New(rand.NewSource(3))
	edges := append(edgePlaces(), someNumbers(60)...)
	pick := func() int64 { return edges[chance.Intn(len(edges))] }
	for range 20000 {
		p := impl.Place{X: pick(), Y: pick(), Turn: pick(), Flip: chance.Intn(2) == 1, Nx: pick(), Ny: pick(), Dx: pick(), Dy: pick()}
		checkPut(t, p, pick(), pick(), box(pick(), pick(), pick(), pick()))
	}
	for _, n := range edges {
		for _, m := range []int64{math.MinInt64, math.MinInt64 + 1, -1, 0, 1, math.MaxInt64} {
			for turn := int64(-5); turn < 5; turn++ {
				checkPut(t, impl.Place{X: n, Y: m, Turn: turn, Flip: true, Dx: m, Dy: n}, n, m, box(m, n, n, m))
				checkPut(t, impl.Place{X: m, Y: n, Turn: turn, Dx: n, Dy: m}, m, n, box(n, n, m, m))
			}
		}
	}
}

// Cells, not corners: what is put has just the cells of the box, each mirrored, turned and moved by itself.
func TestPutBoxPutsEachCell(t *testing.T) {
	for seed := range int64(300) {
		chance := rand.New(rand.NewSource(seed))
		p := impl.Place{X: chance.Int63n(9) - 4, Y: chance.Int63n(9) - 4, Turn: chance.Int63n(9) - 4, Flip: chance.Intn(2) == 1, Dx: 3, Dy: -2}
		b := someBoxes(seed, 1, 5)[0]
		whole := impl.PutBox(p, 1, 2, b)
		var units []impl.Box
		for y := b.Y0; y < b.Y1; y++ {
			for x := b.X0; x < b.X1; x++ {
				units = append(units, impl.PutBox(p, 1, 2, box(x, y, x+1, y+1)))
			}
		}
		if form := formOfBoxes(units); !slices.Equal(form, boxes(whole)) {
			t.Errorf("PutBox(%v) of %v is %v, of its cells %v", p, b, whole, form)
		}
	}
}

func checkCount(t *testing.T, what string, list []impl.Cell, name string, want impl.ShapeInt) {
	t.Helper()
	if got := impl.CountFlat(list, name); got != want {
		t.Errorf("CountFlat, %s: %v, want %v", what, got, want)
	}
	flat := impl.Flatten(list, name)
	if want.Code != impl.OK && (flat.Code != want.Code || len(flat.Boxes) > 0) {
		t.Errorf("Flatten, %s: code %d with %d boxes, want %d", what, flat.Code, len(flat.Boxes), want.Code)
	}
	if flat.Code == impl.OK && int64(len(flat.Boxes)) != want.Value {
		t.Errorf("Flatten, %s: %d boxes, counted %d", what, len(flat.Boxes), want.Value)
	}
}

func counted(n int64) impl.ShapeInt {
	return impl.ShapeInt{Value: n}
}

func intCode(code int64) impl.ShapeInt {
	return impl.ShapeInt{Code: code}
}

func TestCountFlat(t *testing.T) {
	list := []impl.Cell{unit("a"), cellWith("b", lboxes(on(1, box(0, 0, 1, 1))), rowsOf("a", 3, 4, 1, 1), once("a", 0, 0)),
		cellWith("c", nil, once("b", 0, 0), rowsOf("b", 2, 1, 0, 0), once("a", 1, 1)), cellWith("d", nil)}
	for name, n := range map[string]int64{"a": 1, "b": 14, "c": 43, "d": 0} {
		checkCount(t, name, list, name, counted(n))
	}
	for _, name := range []string{"", "A", "e", "aa", "a ", "\x00"} {
		checkCount(t, "no cell "+name, list, name, intCode(impl.ErrNone))
		checkCount(t, "no cell at all", nil, name, intCode(impl.ErrNone))
	}
	checkCount(t, "a fault and no such name", []impl.Cell{unit("9")}, "a", intCode(impl.ErrForm))
	checkCount(t, "a fault behind", append(list, unit("a")), "a", intCode(impl.ErrForm))
	checkCount(t, "the wrong name itself", []impl.Cell{unit("9")}, "9", intCode(impl.ErrForm))
}

func TestJustAsManyFlatBoxes(t *testing.T) {
	square := cellWith("all", nil, rowsOf("a", 20, 20, 1, 1))
	checkCount(t, "400", []impl.Cell{unit("a"), square}, "all", counted(400))
	more := square
	more.Boxes = lboxes(on(0, box(0, 0, 1, 1)))
	checkCount(t, "401, with its own", []impl.Cell{unit("a"), more}, "all", intCode(impl.ErrMany))
	more = square
	more.Places = []impl.Place{square.Places[0], once("a", 0, 0)}
	checkCount(t, "401, with a place", []impl.Cell{unit("a"), more}, "all", intCode(impl.ErrMany))
	more.Places = []impl.Place{once("a", 0, 0), square.Places[0]}
	checkCount(t, "401, with a place ahead", []impl.Cell{unit("a"), more}, "all", intCode(impl.ErrMany))
	more.Places = []impl.Place{rowsOf("a", 20, 19, 1, 1), rowsOf("a", 20, 1, 1, 1)}
	checkCount(t, "400 in two places", []impl.Cell{unit("a"), more}, "all", counted(400))
	over := []impl.Cell{unit("a"), square, cellWith("over", nil, once("all", 0, 0))}
	checkCount(t, "400 placed once", over, "over", counted(400))
	over[2].Places[0].Ny = 2
	checkCount(t, "400 placed twice", over, "over", intCode(impl.ErrMany))
	checkCount(t, "400, and one that has too many behind it", over, "all", counted(400))
	checkCount(t, "one, and those that have too many behind it", over, "a", counted(1))
	sixty := cellWith("a", longer(lboxes(on(0, box(0, 0, 1, 1))), 60))
	checkCount(t, "360", []impl.Cell{sixty, cellWith("b", nil, rowsOf("a", 3, 2, 0, 0))}, "b", counted(360))
	checkCount(t, "420", []impl.Cell{sixty, cellWith("b", nil, rowsOf("a", 7, 1, 0, 0))}, "b", intCode(impl.ErrMany))
}

// Far more than can be made, or than an int64 can count: 256 times 256, and so on, is 0 modulo 2^64.
func TestManyTimesMany(t *testing.T) {
	for n := 2; n <= 20; n++ {
		for _, times := range []int64{2, 16, 20} {
			list := chainOf(unit("a"), n, times, times)
			want := countWant(list, lastName(list))
			checkCount(t, strconv.Itoa(n)+" cells, "+strconv.FormatInt(times, 10)+" columns and rows", list, lastName(list), want)
			checkCount(t, "its first", list, "a", counted(1))
		}
	}
	deep := chainOf(unit("a"), 20, 20, 20)
	for i := range deep[1:] {
		deep[i+1].Places = longer(deep[i+1].Places, 20)
	}
	checkCount(t, "20 places each", deep, lastName(deep), intCode(impl.ErrMany))
	if got := impl.DepthOf(deep, lastName(deep)); got != counted(20) {
		t.Errorf("the depth of 20 cells is %v", got)
	}
	if code := impl.LayerOf(deep, lastName(deep), 0).Code; code != impl.ErrMany {
		t.Errorf("LayerOf of too many: %d", code)
	}
}

// Cells without boxes, many times many: there is nothing to make.
func TestManyTimesNone(t *testing.T) {
	empty := chainOf(impl.Cell{Name: "a"}, 20, 20, 20)
	for i := range empty[1:] {
		empty[i+1].Places = longer(empty[i+1].Places, 20)
	}
	checkCount(t, "none", empty, lastName(empty), counted(0))
	checkFlat(t, "none", impl.Flatten(empty, lastName(empty)), impl.FlatResult{})
	empty[19].Boxes = lboxes(on(4, box(1, 2, 3, 4)))
	checkFlat(t, "one of its own", impl.Flatten(empty, lastName(empty)), impl.FlatResult{Boxes: lboxes(on(4, box(1, 2, 3, 4)))})
	if got := impl.DepthOf(empty, lastName(empty)); got != counted(20) {
		t.Errorf("the depth of 20 cells is %v", got)
	}
}

func TestFlattenInOrder(t *testing.T) {
	list := []impl.Cell{
		cellWith("a", lboxes(on(2, box(0, 0, 1, 1)), on(1, box(0, 0, 3, 1)))),
		cellWith("b", lboxes(on(9, box(50, 50, 51, 51)), on(0, box(40, 40, 41, 41))),
			rowsOf("a", 2, 3, 10, 100), impl.Place{Cell: "a", X: -7, Y: 5, Turn: 1, Flip: true, Nx: 1, Ny: 1, Dx: 3, Dy: 3}),
	}
	want := lboxes(on(9, box(50, 50, 51, 51)), on(0, box(40, 40, 41, 41)),
		on(2, box(0, 0, 1, 1)), on(1, box(0, 0, 3, 1)), on(2, box(10, 0, 11, 1)), on(1, box(10, 0, 13, 1)),
		on(2, box(0, 100, 1, 101)), on(1, box(0, 100, 3, 101)), on(2, box(10, 100, 11, 101)), on(1, box(10, 100, 13, 101)),
		on(2, box(0, 200, 1, 201)), on(1, box(0, 200, 3, 201)), on(2, box(10, 200, 11, 201)), on(1, box(10, 200, 13, 201)),
		on(2, box(-8, 4, -7, 5)), on(1, box(-8, 2, -7, 5)))
	checkFlat(t, "rows and columns", impl.Flatten(list, "b"), impl.FlatResult{Boxes: want})
	checkFlat(t, "no places", impl.Flatten(list, "a"), impl.FlatResult{Boxes: list[0].Boxes})
}

// A cell that is mirrored within one that is turned, and the other way round, lies elsewhere.
func TestFlattenOfTurnsWithinTurns(t *testing.T) {
	for inner := range int64(8) {
		for outer := range int64(8) {
			list := []impl.Cell{
				cellWith("a", lboxes(on(0, box(1, 2, 4, 9)))),
				cellWith("b", nil, impl.Place{Cell: "a", X: 10, Y: 20, Turn: inner % 4, Flip: inner >= 4, Nx: 2, Ny: 2, Dx: 100, Dy: 30}),
				cellWith("c", nil, impl.Place{Cell: "b", X: -5, Y: 7, Turn: outer % 4, Flip: outer >= 4, Nx: 2, Ny: 3, Dx: 1000, Dy: -300}),
			}
			checkFlat(t, "within", impl.Flatten(list, "c"), flattenWant(list, "c"))
		}
	}
}

func TestFlattenLeavesThePlaces(t *testing.T) {
	ends := map[impl.Place]int64{
		once("a", 10000, 10000): impl.ErrRange, once("a", 9999, 9999): impl.OK, once("a", -10000, -10000): impl.OK,
		once("a", 10000, 0): impl.ErrRange, once("a", 0, 10000): impl.ErrRange, rowsOf("a", 20, 1, -1, 0): impl.OK,
		rowsOf("a", 3, 1, 5000, 0): impl.ErrRange, rowsOf("a", 2, 1, 9999, 0): impl.OK, rowsOf("a", 1, 2, 0, 10000): impl.ErrRange,
		rowsOf("a", 20, 20, 10000, 10000): impl.ErrRange, rowsOf("a", 2, 2, -10000, -10000): impl.OK, rowsOf("a", 1, 3, 0, -10000): impl.ErrRange,
		{Cell: "a", X: -10000, Turn: 1, Nx: 1, Ny: 1}: impl.ErrRange, {Cell: "a", X: 10000, Turn: 1, Nx: 1, Ny: 1}: impl.OK,
		{Cell: "a", Y: -10000, Turn: 2, Nx: 1, Ny: 1}: impl.ErrRange, {Cell: "a", X: 10000, Flip: true, Nx: 1, Ny: 1}: impl.OK,
	}
	for p, code := range ends {
		list := []impl.Cell{unit("a"), cellWith("b", nil, p)}
		if got := impl.Flatten(list, "b"); got.Code != code || code != impl.OK && len(got.Boxes) > 0 {
			t.Errorf("Flatten with %v: code %d with %d boxes, want %d", p, got.Code, len(got.Boxes), code)
		}
		if got := impl.LayerOf(list, "b", 5); got.Code != code {
			t.Errorf("LayerOf with %v: %d, want %d", p, got.Code, code)
		}
		checkCount(t, "beyond", list, "b", counted(p.Nx*p.Ny))
	}
}

// What counts is where the flat boxes of the asked cell lie: those of a placed one may lie beyond.
func TestFlattenComesBack(t *testing.T) {
	list := []impl.Cell{unit("a"), cellWith("out", nil, rowsOf("a", 3, 1, 10000, 0)), cellWith("back", nil, once("out", -10000, 0)), cellWith("over", nil, once("back", 1, 0))}
	checkFlat(t, "out", impl.Flatten(list, "out"), impl.FlatResult{Code: impl.ErrRange})
	checkFlat(t, "back, one beyond", impl.Flatten(list, "back"), impl.FlatResult{Code: impl.ErrRange})
	list[1].Places[0].Nx = 2
	checkFlat(t, "out", impl.Flatten(list, "out"), impl.FlatResult{Code: impl.ErrRange})
	checkFlat(t, "back", impl.Flatten(list, "back"), impl.FlatResult{Boxes: lboxes(on(0, box(-10000, 0, -9999, 1)), on(0, box(0, 0, 1, 1)))})
	checkFlat(t, "over", impl.Flatten(list, "over"), impl.FlatResult{Boxes: lboxes(on(0, box(-9999, 0, -9998, 1)), on(0, box(1, 0, 2, 1)))})
	checkShape(t, "back", impl.LayerOf(list, "back", 0), impl.ShapeResult{Boxes: boxes(box(-10000, 0, -9999, 1), box(0, 0, 1, 1))})
}

func TestTooManyAheadOfTooFar(t *testing.T) {
	list := []impl.Cell{unit("a"), cellWith("b", nil, rowsOf("a", 20, 20, 10000, 10000))}
	checkFlat(t, "400 that leave", impl.Flatten(list, "b"), impl.FlatResult{Code: impl.ErrRange})
	list[1].Boxes = lboxes(on(0, box(0, 0, 1, 1)))
	checkFlat(t, "401 that leave", impl.Flatten(list, "b"), impl.FlatResult{Code: impl.ErrMany})
	checkShape(t, "401 that leave", impl.LayerOf(list, "b", 0), shapeCode(impl.ErrMany))
}

func TestLayerOf(t *testing.T) {
	list := []impl.Cell{cellWith("a", lboxes(on(1, box(0, 0, 2, 2)), on(2, box(0, 0, 9, 9)), on(1, box(1, 1, 3, 3)))),
		cellWith("b", lboxes(on(15, box(0, 0, 1, 1)), on(0, box(5, 5, 6, 6))), once("a", 10, 0))}
	checkShape(t, "two squares", impl.LayerOf(list, "a", 1), impl.ShapeResult{Boxes: boxes(box(0, 0, 2, 1), box(0, 1, 3, 2), box(1, 2, 3, 3))})
	checkShape(t, "placed", impl.LayerOf(list, "b", 1), impl.ShapeResult{Boxes: boxes(box(10, 0, 12, 1), box(10, 1, 13, 2), box(11, 2, 13, 3))})
	checkShape(t, "layer 0", impl.LayerOf(list, "b", 0), impl.ShapeResult{Boxes: boxes(box(5, 5, 6, 6))})
	checkShape(t, "layer 15", impl.LayerOf(list, "b", 15), impl.ShapeResult{Boxes: boxes(box(0, 0, 1, 1))})
	for _, layer := range []int64{-1, 3, 14, 16, 257, 1<<32 + 1, math.MinInt64, math.MaxInt64} {
		checkShape(t, "no such layer", impl.LayerOf(list, "b", layer), impl.ShapeResult{})
	}
	checkShape(t, "no such cell", impl.LayerOf(list, "c", 1), shapeCode(impl.ErrNone))
	checkShape(t, "no such cell, no such layer", impl.LayerOf(list, "c", -1), shapeCode(impl.ErrNone))
	checkShape(t, "a fault", impl.LayerOf(append(list, unit("a")), "a", 1), shapeCode(impl.ErrForm))
}

// More boxes than a shape may be made of, though they are one and the same cell.
func TestLayerOfManyBoxes(t *testing.T) {
	list := []impl.Cell{unit("a"), cellWith("b", nil, rowsOf("a", 15, 10, 0, 0)), cellWith("c", lboxes(on(1, box(0, 0, 1, 1)), on(0, box(0, 0, 1, 1))), once("b", 0, 0))}
	checkShape(t, "150 boxes", impl.LayerOf(list, "b", 0), impl.ShapeResult{Boxes: boxes(box(0, 0, 1, 1))})
	checkShape(t, "151 boxes", impl.LayerOf(list, "c", 0), shapeCode(impl.ErrMany))
	checkShape(t, "151 boxes, on another layer", impl.LayerOf(list, "c", 1), impl.ShapeResult{Boxes: boxes(box(0, 0, 1, 1))})
}

// A ladder of 75 rungs and a bar: 150 boxes with one end that stands out, 151 with both.
func TestLayerOfShapesTooMany(t *testing.T) {
	ladderOf := func(below int64, above int64) []impl.Cell {
		rungs := []impl.Place{rowsOf("rung", 1, 20, 0, 2), rowsOf("rung", 1, 20, 0, 2), rowsOf("rung", 1, 20, 0, 2), rowsOf("rung", 1, 15, 0, 2)}
		for i := range rungs {
			rungs[i].Y = 40 * int64(i)
		}
		return []impl.Cell{cellWith("rung", lboxes(on(3, box(0, 0, 3, 1)))), cellWith("ladder", lboxes(on(3, box(1, -below, 2, 149+above))), rungs...)}
	}
	if got := impl.LayerOf(ladderOf(1, 0), "ladder", 3); got.Code != impl.OK || len(got.Boxes) != 150 {
		t.Errorf("a ladder: code %d, %d boxes", got.Code, len(got.Boxes))
	}
	checkShape(t, "a ladder", impl.LayerOf(ladderOf(1, 0), "ladder", 3), layerWant(ladderOf(1, 0), "ladder", 3))
	checkShape(t, "a longer ladder", impl.LayerOf(ladderOf(1, 1), "ladder", 3), shapeCode(impl.ErrMany))
}

func TestDepthOf(t *testing.T) {
	list := []impl.Cell{unit("a"), cellWith("b", nil, once("a", 0, 0)), cellWith("c", nil, once("a", 0, 0), once("b", 0, 0), once("a", 0, 0)),
		cellWith("d", nil, once("a", 0, 0)), {Name: "e"}, cellWith("f", nil, once("d", 0, 0), once("c", 0, 0), once("e", 0, 0))}
	for name, depth := range map[string]int64{"a": 1, "b": 2, "c": 3, "d": 2, "e": 1, "f": 4} {
		if got := impl.DepthOf(list, name); got != counted(depth) {
			t.Errorf("DepthOf %s: %v, want %d", name, got, depth)
		}
	}
	for i, c := range chainOf(unit("a"), 20, 1, 1) {
		if got := impl.DepthOf(chainOf(unit("a"), 20, 1, 1), c.Name); got != counted(int64(i)+1) {
			t.Errorf("DepthOf %s in a chain: %v, want %d", c.Name, got, i+1)
		}
	}
	for _, name := range []string{"", "A", "g"} {
		if got := impl.DepthOf(list, name); got != intCode(impl.ErrNone) {
			t.Errorf("DepthOf %q: %v", name, got)
		}
	}
	if got := impl.DepthOf(nil, "a"); got != intCode(impl.ErrNone) {
		t.Errorf("DepthOf none: %v", got)
	}
	if got := impl.DepthOf([]impl.Cell{unit("a"), cellWith("b", nil, once("c", 0, 0))}, "none"); got != intCode(impl.ErrNone) {
		t.Errorf("DepthOf with a fault: %v", got)
	}
	if got := impl.DepthOf([]impl.Cell{unit("a"), unit("a")}, "none"); got != intCode(impl.ErrForm) {
		t.Errorf("DepthOf with a fault: %v", got)
	}
}

func TestTopsOf(t *testing.T) {
	list := []impl.Cell{unit("z"), unit("a"), cellWith("m", nil, once("z", 0, 0), once("z", 1, 1)), unit("b"), cellWith("c", nil, once("m", 0, 0))}
	cases := []struct {
		what string
		list []impl.Cell
		want []string
	}{
		{"none", nil, nil}, {"an empty list", []impl.Cell{}, nil}, {"one", list[:1], []string{"z"}}, {"all", list[:2], []string{"z", "a"}},
		{"all but one", list[:3], []string{"a", "m"}}, {"some", list, []string{"a", "b", "c"}}, {"a chain", chainOf(unit("a"), 20, 1, 1), []string{"ct"}},
		{"a fault", append(slices.Clone(list), unit("z")), nil}, {"a wrong name", []impl.Cell{unit("9")}, nil}, {"too many", make([]impl.Cell, 21), nil},
	}
	for _, c := range cases {
		if got := impl.TopsOf(c.list); !slices.Equal(got, c.want) {
			t.Errorf("TopsOf, %s: %v, want %v", c.what, got, c.want)
		}
	}
}

func TestFlatOfMany(t *testing.T) {
	met := map[int64]int{}
	for _, list := range someLibs(600) {
		for _, name := range someNames() {
			if got, want := impl.CountFlat(list, name), countWant(list, name); got != want {
				t.Errorf("CountFlat(%v, %.20q) = %v, want %v", list, name, got, want)
			}
			flat := flattenWant(list, name)
			met[flat.Code]++
			checkFlat(t, "some layout", impl.Flatten(list, name), flat)
			if got, want := impl.DepthOf(list, name), depthWant(list, name); got != want {
				t.Errorf("DepthOf(%v, %.20q) = %v, want %v", list, name, got, want)
			}
		}
		if got, want := impl.TopsOf(list), topsWant(list); !slices.Equal(got, want) {
			t.Errorf("TopsOf(%v) = %v, want %v", list, got, want)
		}
	}
	for _, code := range []int64{impl.OK, impl.ErrForm, impl.ErrMany, impl.ErrRange, impl.ErrNone} {
		if met[code] < 5 {
			t.Errorf("the code %d was met %d times: the layouts do not ask for it", code, met[code])
		}
	}
}

func TestLayersHaveTheCellsOfTheFlatBoxes(t *testing.T) {
	for _, list := range someLibs(150) {
		for _, name := range someNames()[:8] {
			for _, layer := range []int64{0, 1, 2, 3, -1} {
				checkShape(t, "some layer", impl.LayerOf(list, name, layer), layerWant(list, name, layer))
			}
		}
	}
}
