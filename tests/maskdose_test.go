package tests

import (
	"math"
	"math/rand"
	"testing"

	"loop.example/g00057/impl"
)

func TestDosesByHand(t *testing.T) {
	frame := box(-1, 5, 2, 7)
	cases := []struct {
		name string
		list []impl.Shot
		want impl.RowsResult
	}{
		{"none", nil, doseRows(numbers(0, 0, 0), numbers(0, 0, 0))},
		{"the first cell", shots(shot(box(-1, 5, 0, 6), 4)), doseRows(numbers(4, 0, 0), numbers(0, 0, 0))},
		{"the last cell of the first row", shots(shot(box(1, 5, 2, 6), 4)), doseRows(numbers(0, 0, 4), numbers(0, 0, 0))},
		{"the last cell", shots(shot(box(1, 6, 2, 7), 4)), doseRows(numbers(0, 0, 0), numbers(0, 0, 4))},
		{"upon one another", shots(shot(box(-1, 5, 1, 7), 4), shot(box(0, 5, 2, 6), 30), shot(box(0, 5, 1, 6), 500)), doseRows(numbers(4, 534, 30), numbers(4, 4, 0))},
		{"the same twice", shots(shot(box(0, 6, 1, 7), 4), shot(box(0, 6, 1, 7), 4)), doseRows(numbers(0, 0, 0), numbers(0, 8, 0))},
		{"a dose of 0", shots(shot(frame, 0)), doseRows(numbers(0, 0, 0), numbers(0, 0, 0))},
		{"all of the frame", shots(shot(frame, 1000)), doseRows(numbers(1000, 1000, 1000), numbers(1000, 1000, 1000))},
		{"all places", shots(shot(box(-10000, -10000, 10000, 10000), 7)), doseRows(numbers(7, 7, 7), numbers(7, 7, 7))},
		{"left of it", shots(shot(box(-9, 5, -1, 7), 7)), doseRows(numbers(0, 0, 0), numbers(0, 0, 0))},
		{"right of it", shots(shot(box(2, 5, 9, 7), 7)), doseRows(numbers(0, 0, 0), numbers(0, 0, 0))},
		{"below it", shots(shot(box(-1, 0, 2, 5), 7)), doseRows(numbers(0, 0, 0), numbers(0, 0, 0))},
		{"above it", shots(shot(box(-1, 7, 2, 9), 7)), doseRows(numbers(0, 0, 0), numbers(0, 0, 0))},
		{"partly from the left", shots(shot(box(-9, 0, 0, 9), 7)), doseRows(numbers(7, 0, 0), numbers(7, 0, 0))},
		{"partly from above", shots(shot(box(-9, 6, 9, 9), 7)), doseRows(numbers(0, 0, 0), numbers(7, 7, 7))},
		{"partly at a corner", shots(shot(box(1, 6, 9, 9), 7)), doseRows(numbers(0, 0, 0), numbers(0, 0, 7))},
		{"partly from the right and from below", shots(shot(box(0, 0, 9, 6), 7)), doseRows(numbers(0, 7, 7), numbers(0, 0, 0))},
	}
	for _, c := range cases {
		checkRows(t, c.name, impl.DoseMap(c.list, frame), c.want)
		checkRows(t, c.name+", plainly", doseMapWant(c.list, frame), c.want)
		checkRows(t, c.name+", by its own dose alone", impl.SpreadMap(c.list, writer(frame, 1, 0, 4)), c.want)
		checkRows(t, c.name+", by its share alone", impl.SpreadMap(c.list, writer(frame, 0, 1, 0)), c.want)
	}
}

// frameCases are frames, each with its code.
func frameCases() []struct {
	name  string
	frame impl.Box
	want  int64
} {
	return []struct {
		name  string
		frame impl.Box
		want  int64
	}{
		{"the zero box", impl.Box{}, impl.ErrForm},
		{"one cell", box(0, 0, 1, 1), impl.OK},
		{"as wide and high as may be", box(-3, -9, 21, 15), impl.OK},
		{"one wider", box(-3, -9, 22, 15), impl.ErrMany},
		{"one higher", box(-3, -9, 21, 16), impl.ErrMany},
		{"both", box(-3, -9, 22, 16), impl.ErrMany},
		{"all places", box(-10000, -10000, 10000, 10000), impl.ErrMany},
		{"beyond", box(0, 0, 10001, 1), impl.ErrRange},
		{"beyond, but small", box(9999, 0, 10001, 1), impl.ErrRange},
		{"beyond below", box(0, -10001, 1, -10000), impl.ErrRange},
		{"the last cell there is", box(9999, 9999, 10000, 10000), impl.OK},
		{"the first cells there are", box(-10000, -10000, -9976, -9976), impl.OK},
		{"the wrong way round", box(1, 0, 0, 1), impl.ErrForm},
		{"the wrong way round, and beyond", box(0, 10002, 1, 10001), impl.ErrForm},
		{"all numbers", box(math.MinInt64, math.MinInt64, math.MaxInt64, math.MaxInt64), impl.ErrRange},
		{"all numbers, the wrong way round", box(math.MaxInt64, 0, math.MinInt64, 1), impl.ErrForm},
		{"from the least number", box(math.MinInt64, 0, 1, 1), impl.ErrRange},
	}
}

func TestFrames(t *testing.T) {
	list := shots(shot(box(-10000, -10000, 10000, 10000), 3), shot(box(0, 0, 1, 1), 40))
	many := longer(list, 41)
	wrong := shots(shot(box(0, 0, 1, 1), 1001))
	for _, c := range frameCases() {
		w := writer(c.frame, 2, 1, 1)
		if got := impl.WriterFault(w); got != c.want {
			t.Errorf("%s, a frame of a writer: %d, want %d", c.name, got, c.want)
		}
		checkRows(t, c.name, impl.DoseMap(list, c.frame), doseMapWant(list, c.frame))
		checkRows(t, c.name, impl.SpreadMap(list, w), spreadMapWant(list, w))
		if got := impl.DoseMap(list, c.frame); got.Code != c.want {
			t.Errorf("%s: code %d, want %d", c.name, got.Code, c.want)
		}
		checkRows(t, c.name+", too many shots first", impl.DoseMap(many, c.frame), rowsCode(impl.ErrMany))
		checkRows(t, c.name+", a wrong shot first", impl.DoseMap(wrong, c.frame), rowsCode(impl.ErrRange))
		if c.want != impl.OK {
			checkRows(t, c.name+", ahead of the shots", impl.SpreadMap(many, w), rowsCode(c.want))
			checkRows(t, c.name+", ahead of a wrong shot", impl.SpreadMap(wrong, w), rowsCode(c.want))
			checkError(t, c.name+", ahead of the shots", wrong, w, -1, impl.ShapeInt{Code: c.want})
			checkEven(t, c.name+", ahead of the shots", impl.EvenDoses(many, w, -1, -1), impl.DoseResult{Code: c.want})
		}
	}
}

func TestRowsFromBelowCellsFromTheLeft(t *testing.T) {
	frame := box(-7, 3, 17, 27)
	var list []impl.Shot
	for i := range int64(24) {
		list = append(list, shot(box(frame.X0+i, frame.Y0+i, frame.X0+i+1, frame.Y0+i+1), 100+i))
	}
	got := impl.DoseMap(list, frame)
	if len(got.Rows) != 24 {
		t.Fatalf("%d rows", len(got.Rows))
	}
	for j, row := range got.Rows {
		for i, dose := range row {
			want := int64(0)
			if i == j {
				want = int64(100 + i)
			}
			if len(row) != 24 || dose != want {
				t.Fatalf("row %d has %d cells, the dose of cell %d is %d, want %d", j, len(row), i, dose, want)
			}
		}
	}
}

func TestWriterFault(t *testing.T) {
	right, wide, bad := box(0, 0, 24, 24), box(0, 0, 25, 24), box(0, 0, 0, 1)
	cases := []struct {
		name string
		w    impl.Writer
		want int64
	}{
		{"right", writer(right, 3, 2, 1), impl.OK},
		{"all 0", writer(right, 0, 0, 0), impl.OK},
		{"all as great as may be", writer(right, 1000, 1000, 4), impl.OK},
		{"the zero writer", impl.Writer{}, impl.ErrForm},
		{"own below 0", writer(right, -1, 2, 1), impl.ErrRange},
		{"own too great", writer(right, 1001, 2, 1), impl.ErrRange},
		{"share below 0", writer(right, 3, -1, 1), impl.ErrRange},
		{"share too great", writer(right, 3, 1001, 1), impl.ErrRange},
		{"reach below 0", writer(right, 3, 2, -1), impl.ErrRange},
		{"reach too great", writer(right, 3, 2, 5), impl.ErrRange},
		{"the least numbers", writer(right, math.MinInt64, math.MinInt64, math.MinInt64), impl.ErrRange},
		{"the greatest reach", writer(right, 3, 2, math.MaxInt64), impl.ErrRange},
		{"the greatest own", writer(right, math.MaxInt64, 2, 2), impl.ErrRange},
		{"the greatest share", writer(right, 3, math.MaxInt64, 2), impl.ErrRange},
		{"too wide, own", writer(wide, -1, 2, 1), impl.ErrMany},
		{"too wide, reach", writer(wide, 3, 2, 5), impl.ErrMany},
		{"a wrong box, share", writer(bad, 3, 1001, 1), impl.ErrForm},
		{"a wrong box, too wide", writer(box(0, 1, 25, 1), 3, 2, 1), impl.ErrForm},
		{"beyond and too wide", writer(box(9000, 0, 10001, 1), 3, 2, 1), impl.ErrRange},
	}
	wrong := shots(shot(box(0, 0, 0, 1), 1))
	for _, c := range cases {
		if got := impl.WriterFault(c.w); got != c.want || writerFaultWant(c.w) != c.want {
			t.Errorf("%s, %v: %d, want %d", c.name, c.w, got, c.want)
		}
		if got := impl.SpreadMap(nil, c.w); got.Code != c.want || c.want != impl.OK && len(got.Rows) > 0 {
			t.Errorf("%s, a map of %v: code %d, want %d", c.name, c.w, got.Code, c.want)
		}
		if got := impl.SpreadMap(wrong, c.w); c.want != impl.OK && got.Code != c.want || c.want == impl.OK && got.Code != impl.ErrForm {
			t.Errorf("%s, a map of %v with a wrong shot: code %d, want %d first", c.name, c.w, got.Code, c.want)
		}
		if got := impl.DoseError(wrong, c.w, -1); c.want != impl.OK && got.Code != c.want || c.want == impl.OK && got.Code != impl.ErrForm {
			t.Errorf("%s, an error of %v with a wrong shot: code %d, want %d first", c.name, c.w, got.Code, c.want)
		}
	}
	ends := append(doseEnds(), edgePlaces()...)
	for _, own := range ends {
		for _, share := range ends {
			for _, reach := range ends {
				w := writer(box(0, 0, 1, 2), own, share, reach)
				if got := impl.WriterFault(w); got != writerFaultWant(w) {
					t.Fatalf("%v: %d, want %d", w, got, writerFaultWant(w))
				}
			}
		}
	}
}

func TestSpreadsByHand(t *testing.T) {
	row := box(0, 0, 5, 1)
	three := box(0, 0, 3, 3)
	dot := func(x int64, y int64, dose int64) impl.Shot { return shot(box(x, y, x+1, y+1), dose) }
	cases := []struct {
		name string
		list []impl.Shot
		w    impl.Writer
		want impl.RowsResult
	}{
		{"the example", shots(dot(0, 0, 2)), writer(box(0, 0, 2, 1), 3, 1, 1), doseRows(numbers(8, 2))},
		{"one cell, reach 0", shots(dot(0, 0, 2)), writer(box(0, 0, 1, 1), 3, 5, 0), doseRows(numbers(16))},
		{"one cell, reach 4", shots(dot(0, 0, 2)), writer(box(0, 0, 1, 1), 3, 5, 4), doseRows(numbers(16))},
		{"reach 0", shots(dot(2, 0, 10)), writer(row, 2, 3, 0), doseRows(numbers(0, 0, 50, 0, 0))},
		{"reach 1", shots(dot(2, 0, 10)), writer(row, 2, 3, 1), doseRows(numbers(0, 30, 50, 30, 0))},
		{"reach 2", shots(dot(2, 0, 10)), writer(row, 2, 3, 2), doseRows(numbers(30, 30, 50, 30, 30))},
		{"as far as reach, and one further", shots(dot(0, 0, 10)), writer(row, 2, 3, 3), doseRows(numbers(50, 30, 30, 30, 0))},
		{"the whole row", shots(dot(4, 0, 10)), writer(row, 2, 3, 4), doseRows(numbers(30, 30, 30, 30, 50))},
		{"greater than the frame", shots(dot(0, 0, 1), dot(1, 0, 10)), writer(box(0, 0, 2, 1), 0, 1, 4), doseRows(numbers(11, 11))},
		{"upward", shots(dot(0, 2, 10)), writer(box(0, 0, 1, 5), 2, 3, 1), doseRows(numbers(0), numbers(30), numbers(50), numbers(30), numbers(0))},
		{"a corner", shots(dot(0, 0, 1)), writer(three, 4, 1, 1), doseRows(numbers(5, 1, 0), numbers(1, 1, 0), numbers(0, 0, 0))},
		{"the other corner", shots(dot(2, 2, 1)), writer(three, 4, 1, 1), doseRows(numbers(0, 0, 0), numbers(0, 1, 1), numbers(0, 1, 5))},
		{"a side", shots(dot(1, 0, 1)), writer(three, 4, 1, 1), doseRows(numbers(1, 5, 1), numbers(1, 1, 1), numbers(0, 0, 0))},
		{"the middle", shots(dot(1, 1, 1)), writer(three, 4, 1, 1), doseRows(numbers(1, 1, 1), numbers(1, 5, 1), numbers(1, 1, 1))},
		{"all of the frame", shots(shot(three, 1)), writer(three, 0, 1, 1), doseRows(numbers(4, 6, 4), numbers(6, 9, 6), numbers(4, 6, 4))},
		{"nothing from outside", shots(shot(box(-5, -5, 0, 8), 1), shot(box(3, 0, 4, 3), 1)), writer(three, 1, 1, 4), doseRows(numbers(0, 0, 0), numbers(0, 0, 0), numbers(0, 0, 0))},
		{"partly from outside", shots(shot(box(-5, -5, 1, 8), 1)), writer(three, 0, 1, 1), doseRows(numbers(2, 2, 0), numbers(3, 3, 0), numbers(2, 2, 0))},
		{"no own, no share", shots(shot(three, 9)), writer(three, 0, 0, 4), doseRows(numbers(0, 0, 0), numbers(0, 0, 0), numbers(0, 0, 0))},
		{"no shots", nil, writer(row, 1000, 1000, 4), doseRows(numbers(0, 0, 0, 0, 0))},
	}
	for _, c := range cases {
		checkRows(t, c.name, impl.SpreadMap(c.list, c.w), c.want)
		checkRows(t, c.name+", plainly", spreadMapWant(c.list, c.w), c.want)
	}
}

// Forty shots of the greatest dose upon one another, over a whole frame.
func TestTheGreatestSpread(t *testing.T) {
	frame := box(-10000, 9976, -9976, 10000)
	list := longer(shots(shot(box(-10000, -10000, 10000, 10000), 1000)), 40)
	w := writer(frame, 1000, 1000, 4)
	got := impl.SpreadMap(list, w)
	checkRows(t, "the greatest", got, spreadMapWant(list, w))
	const dose = 40 * 1000
	if got.Rows[12][12] != 1000*dose+1000*81*dose || got.Rows[0][0] != 1000*dose+1000*25*dose || got.Rows[23][12] != 1000*dose+1000*45*dose {
		t.Errorf("the middle has %d, a corner %d, a side %d", got.Rows[12][12], got.Rows[0][0], got.Rows[23][12])
	}
	sum := int64(0)
	for _, row := range got.Rows {
		for _, n := range row {
			sum += n
		}
	}
	checkError(t, "the greatest", list, w, 0, impl.ShapeInt{Value: sum})
	checkError(t, "the greatest", list, w, 1000000000, impl.ShapeInt{Value: sum - 576*1000000000})
	none := longer(shots(shot(frame, 0)), 40)
	checkError(t, "none, where much is wanted", none, w, 1000000000, impl.ShapeInt{Value: 576 * 1000000000})
}

func TestMapsAgainstThePlainReckoning(t *testing.T) {
	chance := rand.New(rand.NewSource(7))
	for i := range 1500 {
		list := someMaskShots(chance, i%12, 1000)
		w := someWriter(chance)
		want := chance.Int63n(20000)
		checkRows(t, "doses of "+brief(list), impl.DoseMap(list, w.Frame), doseMapWant(list, w.Frame))
		checkRows(t, "a spread of "+brief(list), impl.SpreadMap(list, w), spreadMapWant(list, w))
		checkError(t, "some", list, w, want, doseErrorWant(list, w, want))
	}
}

// What is spread of two lists together is what is spread of both, added up.
func TestDosesAddUp(t *testing.T) {
	chance := rand.New(rand.NewSource(8))
	for i := range 300 {
		one, other := someMaskShots(chance, i%8, 1000), someMaskShots(chance, i%5, 1000)
		w := someWriter(chance)
		a, b := impl.SpreadMap(one, w), impl.SpreadMap(other, w)
		sum := rowsOver(w.Frame, func(x int64, y int64) int64 {
			return a.Rows[y-w.Frame.Y0][x-w.Frame.X0] + b.Rows[y-w.Frame.Y0][x-w.Frame.X0]
		})
		checkRows(t, "both together", impl.SpreadMap(append(one, other...), w), sum)
	}
}

func TestErrorsByHand(t *testing.T) {
	row := box(0, 0, 4, 1)
	plain := writer(row, 1, 0, 0)
	part := func(x0 int64, x1 int64, dose int64) impl.Shot { return shot(box(x0, 0, x1, 1), dose) }
	cases := []struct {
		name  string
		list  []impl.Shot
		w     impl.Writer
		want  int64
		value int64
	}{
		{"no shots", nil, plain, 100, 0},
		{"as wanted", shots(part(0, 4, 100)), plain, 100, 0},
		{"too little", shots(part(0, 4, 90)), plain, 100, 40},
		{"too much", shots(part(0, 4, 103)), plain, 100, 12},
		{"both", shots(part(0, 1, 90), part(1, 4, 103)), plain, 100, 19},
		{"cells without a shot do not count", shots(part(0, 1, 90)), plain, 100, 10},
		{"a dose of 0 counts", shots(part(0, 2, 0)), plain, 100, 200},
		{"a cell of two shots, once", shots(part(0, 2, 60), part(1, 3, 60)), plain, 100, 40 + 20 + 40},
		{"the same shot twice, once", shots(part(0, 4, 30), part(0, 4, 30)), plain, 100, 160},
		{"outside", shots(part(4, 9, 7)), plain, 100, 0},
		{"partly outside", shots(part(-5, 1, 7), part(3, 9, 101)), plain, 100, 94},
		{"all outside and one in", shots(part(4, 9, 7), part(0, 1, 99)), plain, 100, 1},
		{"nothing wanted", shots(part(0, 2, 60)), plain, 0, 120},
		{"what is scattered counts", shots(part(0, 1, 10)), writer(row, 1, 1, 1), 15, 5},
		{"what is scattered from a neighbour", shots(part(0, 1, 10), part(1, 2, 4)), writer(row, 0, 1, 1), 15, 2},
		{"scattered where no shot is does not count", shots(part(1, 2, 10)), writer(row, 0, 1, 1), 0, 10},
	}
	for _, c := range cases {
		checkError(t, c.name, c.list, c.w, c.want, impl.ShapeInt{Value: c.value})
		if plainly := doseErrorWant(c.list, c.w, c.want); plainly != (impl.ShapeInt{Value: c.value}) {
			t.Errorf("%s: plainly %v, want %d", c.name, plainly, c.value)
		}
	}
}

func TestWantedDosesAtTheEdges(t *testing.T) {
	w := writer(box(0, 0, 2, 1), 3, 1, 1)
	list := shots(shot(box(0, 0, 1, 1), 2))
	for _, c := range []struct {
		want  int64
		value impl.ShapeInt
	}{
		{-1, impl.ShapeInt{Code: impl.ErrRange}}, {0, impl.ShapeInt{Value: 8}}, {8, impl.ShapeInt{}}, {1000000000, impl.ShapeInt{Value: 999999992}},
		{1000000001, impl.ShapeInt{Code: impl.ErrRange}}, {math.MinInt64, impl.ShapeInt{Code: impl.ErrRange}}, {math.MaxInt64, impl.ShapeInt{Code: impl.ErrRange}},
	} {
		checkError(t, "one shot", list, w, c.want, c.value)
		if got := impl.EvenDoses(list, w, c.want, 0); got.Code != c.value.Code {
			t.Errorf("evened to %d: code %d, want %d", c.want, got.Code, c.value.Code)
		}
	}
	checkError(t, "too many shots first", longer(list, 41), w, -1, impl.ShapeInt{Code: impl.ErrMany})
	checkError(t, "a wrong shot first", shots(shot(box(0, 0, 0, 0), 2)), w, -1, impl.ShapeInt{Code: impl.ErrForm})
	checkError(t, "no shots, and want is wrong", nil, w, -1, impl.ShapeInt{Code: impl.ErrRange})
}
