package tests

import (
	"cmp"
	"math"
	"math/big"
	"math/rand"
	"slices"
	"testing"

	"loop.example/g00057/impl"
)

const (
	leastInt    = math.MinInt64
	greatestInt = math.MaxInt64
)

func passRows(pass int64, rows ...[]int64) impl.PairRows {
	return impl.PairRows{Rows: rows, Pass: pass}
}

func passCode(code int64) impl.PairRows {
	return impl.PairRows{Code: code}
}

func window(area int64, b impl.Box) impl.WindowResult {
	return impl.WindowResult{Area: area, Box: b}
}

func windowCode(code int64) impl.WindowResult {
	return impl.WindowResult{Code: code}
}

// bitMap is a pass map of that size; its places are the bits of a number, the first the lowest.
func bitMap(bits int, high int, wide int) [][]int64 {
	rows := filled(high, wide, 0)
	for i := range high * wide {
		rows[i/wide][i%wide] = int64(bits >> i & 1)
	}
	return rows
}

// somePass is a pass map in which about share places of eight are 1.
func somePass(chance *rand.Rand, high int, wide int, share int) [][]int64 {
	rows := filled(high, wide, 0)
	for _, row := range rows {
		for x := range row {
			row[x] = bit(chance.Intn(8) < share)
		}
	}
	return rows
}

// above1 tells whether one of the numbers is.
func above1(rows [][]int64) bool {
	return slices.ContainsFunc(slices.Concat(rows...), func(n int64) bool { return n >= 2 })
}

func passFaultWant(rows [][]int64) int64 {
	var codes faults
	codes.found(gridFaultWant(rows, mostValue))
	codes.wrong(impl.ErrForm, above1(rows))
	return codes.first()
}

// countedPass is the map of these rows with how many are 1.
func countedPass(r impl.RowsResult) impl.PairRows {
	return impl.PairRows{Code: r.Code, Rows: r.Rows, Pass: totalOf(r.Rows)}
}

func passMapWant(sizes [][]int64, low int64, high int64) impl.PairRows {
	var codes faults
	codes.found(gridFaultWant(sizes, mostValue))
	codes.wrong(impl.ErrRange, low > high)
	return countedPass(numberWise(codes.first(), sizes, func(n int64) int64 { return 1 - max(bit(n < low), bit(n > high)) }))
}

func bothPassWant(a [][]int64, b [][]int64) impl.PairRows {
	var codes faults
	codes.found(gridFaultWant(a, mostValue))
	codes.found(gridFaultWant(b, mostValue))
	codes.wrong(impl.ErrForm, len(a) != len(b), above1(a), above1(b))
	if codes.first() == impl.OK {
		codes.wrong(impl.ErrForm, len(a[0]) != len(b[0]))
	}
	if code := codes.first(); code != impl.OK {
		return passCode(code)
	}
	out := filled(len(a), len(a[0]), 0)
	for y, row := range out {
		for x := range row {
			row[x] = a[y][x] * b[y][x]
		}
	}
	return countedPass(impl.RowsResult{Rows: out})
}

// allBoxes are those of a grid without a fault, none of them empty: by rising Y0, then X0, then Y1, then X1.
func allBoxes(rows [][]int64) []impl.Box {
	var list []impl.Box
	for y0 := range rows {
		for x0 := range rows[0] {
			for y1 := y0 + 1; y1 <= len(rows); y1++ {
				for x1 := x0 + 1; x1 <= len(rows[0]); x1++ {
					list = append(list, box(int64(x0), int64(y0), int64(x1), int64(y1)))
				}
			}
		}
	}
	return list
}

// numbersIn are the numbers in a box of the grid.
func numbersIn(rows [][]int64, b impl.Box) []int64 {
	in := cellsOf(boxes(b))
	var list []int64
	for y, row := range rows {
		for x, n := range row {
			if in(int64(x), int64(y)) {
				list = append(list, n)
			}
		}
	}
	return list
}

// goodWindows are all boxes of a map without a fault that have only 1.
func goodWindows(rows [][]int64) []impl.WindowResult {
	var list []impl.WindowResult
	for _, b := range allBoxes(rows) {
		if in := numbersIn(rows, b); slices.Min(in) == 1 {
			list = append(list, window(int64(len(in)), b))
		}
	}
	return list
}

// firstWindow puts the greatest area first, then the least Y0, X0 and Y1.
func firstWindow(a impl.WindowResult, b impl.WindowResult) int {
	return cmp.Or(cmp.Compare(b.Area, a.Area), cmp.Compare(a.Box.Y0, b.Box.Y0), cmp.Compare(a.Box.X0, b.Box.X0), cmp.Compare(a.Box.Y1, b.Box.Y1))
}

func largestWant(rows [][]int64) impl.WindowResult {
	if code := passFaultWant(rows); code != impl.OK {
		return windowCode(code)
	}
	list := goodWindows(rows)
	if len(list) == 0 {
		return windowCode(impl.ErrNone)
	}
	return slices.MinFunc(list, firstWindow)
}

func checkWindowWant(rows [][]int64, w impl.WindowResult) bool {
	if passFaultWant(rows) != impl.OK || w.Code != impl.OK {
		return false
	}
	list := goodWindows(rows)
	greater := func(v impl.WindowResult) bool { return v.Area > w.Area }
	return slices.Contains(list, w) && !slices.ContainsFunc(list, greater)
}

// lineWant asks all runs of a line, the longest first.
func lineWant(line []int64) int64 {
	for n := len(line); n > 0; n-- {
		for from := range len(line) - n + 1 {
			if slices.Min(line[from:from+n]) == 1 {
				return int64(n)
			}
		}
	}
	return 0
}

func rowRunWant(rows [][]int64, row int64) impl.ShapeInt {
	var codes faults
	codes.found(passFaultWant(rows))
	codes.wrong(impl.ErrNone, row <= -1, row >= int64(len(rows)))
	if code := codes.first(); code != impl.OK {
		return valueCode(code)
	}
	return value(lineWant(rows[row]))
}

func columnRunWant(rows [][]int64, column int64) impl.ShapeInt {
	if code := passFaultWant(rows); code != impl.OK {
		return valueCode(code)
	}
	return rowRunWant(flipped(rows), column)
}

// centreWant is the mean of all columns.
func centreWant(w impl.WindowResult) impl.FracResult {
	if w.Code != impl.OK || boxesFaultWant(boxes(w.Box)) != impl.OK {
		return impl.FracResult{Code: impl.ErrForm}
	}
	sum, count := int64(0), int64(0)
	for x := w.Box.X0; x < w.Box.X1; x++ {
		sum += x
		count++
	}
	return answerOf(big.NewRat(sum, count))
}

func slackWant(sizes [][]int64, w impl.WindowResult, want int64) impl.ShapeInt {
	if code := gridFaultWant(sizes, mostValue); code != impl.OK {
		return valueCode(code)
	}
	var codes faults
	codes.wrong(impl.ErrForm, w.Code != impl.OK, !slices.Contains(allBoxes(sizes), w.Box))
	codes.wrong(impl.ErrRange, want <= -1, want >= mostValue+1)
	if code := codes.first(); code != impl.OK {
		return valueCode(code)
	}
	in := numbersIn(sizes, w.Box)
	return value(max(slices.Max(in)-want, want-slices.Min(in)))
}

func samePass(a impl.PairRows, b impl.PairRows) bool {
	return a.Code == b.Code && a.Pass == b.Pass && sameGrid(a.Rows, b.Rows)
}

func checkPass(t *testing.T, what string, got impl.PairRows, want impl.PairRows) {
	t.Helper()
	if !samePass(got, want) {
		t.Errorf("%s: %s, want %s", what, brief(got), brief(want))
	}
}

// checkLargest asks for the window, and for its proof where there is one.
func checkLargest(t *testing.T, what string, rows [][]int64, want impl.WindowResult) {
	t.Helper()
	got := impl.LargestWindow(rows)
	if got != want {
		t.Errorf("%s, %s: %v, want %v", what, brief(rows), got, want)
	}
	if holds := impl.CheckWindow(rows, got); holds != (want.Code == impl.OK) {
		t.Errorf("%s, %s: the proof of %v is %v", what, brief(rows), got, holds)
	}
}

func checkWindowHolds(t *testing.T, what string, rows [][]int64, w impl.WindowResult, want bool) {
	t.Helper()
	if got := impl.CheckWindow(rows, w); got != want {
		t.Errorf("%s, %v of %s: %v", what, w, brief(rows), got)
	}
}

// windowEnds stand at and beyond the bounds of chapter 10, and at the ends of int64.
func windowEnds() []int64 {
	list := numbers(0, 1, 2, 3, 15, 16, 17, impl.MaxPlace-1, impl.MaxPlace, impl.MaxPlace+1, mostValue-1, mostValue, mostValue+1, 1<<32, 1<<32+1, math.MaxInt64-1, math.MaxInt64)
	for _, n := range list {
		list = append(list, -n)
	}
	return append(list, math.MinInt64)
}
