package tests

import (
	"math/rand"
	"testing"

	"loop.example/g00057/impl"
)

// checkRuns asks for a row, and for a column of the map that is flipped.
func checkRuns(t *testing.T, what string, rows [][]int64, at int64, want impl.ShapeInt) {
	t.Helper()
	checkValue(t, what+", DepthAt", impl.DepthAt(rows, at), want)
	checkValue(t, what+", DepthAt, plainly", rowRunWant(rows, at), want)
	checkValue(t, what+", LatitudeAt", impl.LatitudeAt(flipped(rows), at), want)
	checkValue(t, what+", LatitudeAt, plainly", columnRunWant(flipped(rows), at), want)
}

func TestRunsByHand(t *testing.T) {
	rows := grid(
		numbers(0, 0, 0, 0, 0, 0),
		numbers(0, 1, 1, 1, 0, 0),
		numbers(1, 0, 1, 1, 0, 1),
		numbers(1, 1, 0, 0, 1, 1),
		numbers(1, 1, 1, 1, 1, 1),
		numbers(1, 0, 1, 0, 1, 0),
		numbers(0, 0, 0, 1, 1, 1),
		numbers(1, 1, 1, 1, 0, 0),
		numbers(0, 0, 0, 0, 0, 1))
	for row, want := range []int64{0, 3, 2, 2, 6, 1, 3, 4, 1} {
		checkRuns(t, "a row", rows, int64(row), value(want))
	}
	for _, at := range numbers(-1, 9, 10, leastInt, leastInt+1, greatestInt, greatestInt-1, 1<<32, -1<<32) {
		checkRuns(t, "no row", rows, at, valueCode(impl.ErrNone))
	}
}

func TestRunsBothWays(t *testing.T) {
	rows := grid(numbers(1, 1, 0), numbers(1, 0, 1))
	for at, want := range []impl.ShapeInt{value(2), value(1), valueCode(impl.ErrNone)} {
		checkValue(t, "rows", impl.DepthAt(rows, int64(at)), want)
	}
	for at, want := range []impl.ShapeInt{value(2), value(1), value(1), valueCode(impl.ErrNone)} {
		checkValue(t, "columns", impl.LatitudeAt(rows, int64(at)), want)
	}
	checkValue(t, "a column without a 1", impl.LatitudeAt(grid(numbers(1, 0), numbers(1, 0)), 1), value(0))
}

func TestRunsAtTheEnds(t *testing.T) {
	for _, c := range []struct {
		name string
		rows [][]int64
		at   int64
		want impl.ShapeInt
	}{
		{"one place", grid(numbers(1)), 0, value(1)},
		{"one place, of 0", grid(numbers(0)), 0, value(0)},
		{"one place, at -1", grid(numbers(1)), -1, valueCode(impl.ErrNone)},
		{"one place, at 1", grid(numbers(1)), 1, valueCode(impl.ErrNone)},
		{"the first of two", grid(numbers(1, 1), numbers(0, 0)), 0, value(2)},
		{"the last of two", grid(numbers(0, 0), numbers(1, 1)), 1, value(2)},
		{"one behind the last of two", grid(numbers(0, 0), numbers(1, 1)), 2, valueCode(impl.ErrNone)},
		{"as long as can be", filled(16, 16, 1), 15, value(16)},
		{"one more than can be", filled(16, 16, 1), 16, valueCode(impl.ErrNone)},
		{"low and long", filled(1, 16, 1), 0, value(16)},
		{"low and long, at 1", filled(1, 16, 1), 1, valueCode(impl.ErrNone)},
		{"high", filled(16, 1, 1), 15, value(1)},
	} {
		checkRuns(t, c.name, c.rows, c.at, c.want)
	}
}

// The codes stand in their order: the grid, a number above 1, no such row or column.
func TestFaultsOfRuns(t *testing.T) {
	for _, c := range []struct {
		name string
		rows [][]int64
		at   int64
		code int64
	}{
		{"2 in the row", grid(numbers(1, 2), numbers(1, 1)), 0, impl.ErrForm},
		{"2 in another row", grid(numbers(1, 1), numbers(1, 2)), 0, impl.ErrForm},
		{"MaxValue", grid(numbers(1, mostValue), numbers(1, 1)), 0, impl.ErrForm},
		{"above MaxValue", grid(numbers(1, mostValue+1), numbers(1, 1)), 0, impl.ErrRange},
		{"-1", grid(numbers(1, 1), numbers(1, -1)), 0, impl.ErrRange},
		{"2, and no such row", grid(numbers(1, 2), numbers(1, 1)), 2, impl.ErrForm},
		{"2, and -1 for the row", grid(numbers(1, 2), numbers(1, 1)), -1, impl.ErrForm},
		{"2, then -1", grid(numbers(1, 2), numbers(-1, 1)), 0, impl.ErrRange},
		{"-1, and no such row", grid(numbers(1, -1), numbers(1, 1)), 9, impl.ErrRange},
		{"too wide, and 2", filled(1, 17, 2), 0, impl.ErrMany},
		{"too wide, and no such row", filled(1, 17, 1), 17, impl.ErrMany},
	} {
		checkRuns(t, c.name, c.rows, c.at, valueCode(c.code))
	}
	for _, c := range gridFaultCases() {
		for _, at := range numbers(leastInt, -1, 0, 1, 16, greatestInt) {
			checkValue(t, c.name+", DepthAt", impl.DepthAt(c.rows, at), rowRunWant(c.rows, at))
			checkValue(t, c.name+", LatitudeAt", impl.LatitudeAt(c.rows, at), columnRunWant(c.rows, at))
			if c.code != impl.OK {
				checkValue(t, c.name+", DepthAt, plainly", rowRunWant(c.rows, at), valueCode(c.code))
				checkValue(t, c.name+", LatitudeAt, plainly", columnRunWant(c.rows, at), valueCode(c.code))
			}
		}
	}
}

// Every row of up to ten places, as a row and as a column, with other lines around it.
func TestAllRuns(t *testing.T) {
	for wide := 1; wide <= 10; wide++ {
		for bits := range 1 << wide {
			row := bitMap(bits, 1, wide)[0]
			around := grid(filled(1, wide, 1)[0], row, filled(1, wide, 0)[0])
			checkValue(t, "a row", impl.DepthAt(around, 1), value(lineWant(row)))
			checkValue(t, "a column", impl.LatitudeAt(flipped(around), 1), value(lineWant(row)))
		}
	}
}

func TestSomeRuns(t *testing.T) {
	chance := rand.New(rand.NewSource(102))
	for i := range 700 {
		size := someSizes()[i%len(someSizes())]
		rows := somePass(chance, size[0], size[1], 1+i%8)
		for at := range int64(19) {
			checkValue(t, "some rows", impl.DepthAt(rows, at-1), rowRunWant(rows, at-1))
			checkValue(t, "some columns", impl.LatitudeAt(rows, at-1), columnRunWant(rows, at-1))
		}
	}
}

// No window is wider than the depth of a row of it, nor higher than the latitude of a column of it.
func TestRunsHoldWindows(t *testing.T) {
	chance := rand.New(rand.NewSource(103))
	for i := range 300 {
		rows := somePass(chance, 1+chance.Intn(7), 1+chance.Intn(7), 3+i%6)
		w := impl.LargestWindow(rows)
		for y := w.Box.Y0; y < w.Box.Y1; y++ {
			if impl.DepthAt(rows, y).Value < w.Box.X1-w.Box.X0 {
				t.Errorf("%v: %v is wider than row %d goes", rows, w, y)
			}
		}
		for x := w.Box.X0; x < w.Box.X1; x++ {
			if impl.LatitudeAt(rows, x).Value < w.Box.Y1-w.Box.Y0 {
				t.Errorf("%v: %v is higher than column %d goes", rows, w, x)
			}
		}
	}
}
