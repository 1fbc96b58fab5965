package tests

import (
	"math"
	"math/rand"
	"slices"
	"testing"

	"loop.example/g00057/impl"
)

const (
	mostValue = 1000000
	mostTime  = 256000000
)

func grid(rows ...[]int64) [][]int64 {
	return rows
}

// filled is a grid of one number.
func filled(high int, wide int, n int64) [][]int64 {
	var rows [][]int64
	for range high {
		rows = append(rows, slices.Repeat(numbers(n), wide))
	}
	return rows
}

// column is a grid of one column.
func column(list ...int64) [][]int64 {
	var rows [][]int64
	for _, n := range list {
		rows = append(rows, numbers(n))
	}
	return rows
}

func copyGrid(rows [][]int64) [][]int64 {
	var out [][]int64
	for _, row := range rows {
		out = append(out, slices.Clone(row))
	}
	return out
}

// with is a grid with another number in one place.
func with(rows [][]int64, x int, y int, n int64) [][]int64 {
	out := copyGrid(rows)
	out[y][x] = n
	return out
}

// flipped has the columns as rows.
func flipped(rows [][]int64) [][]int64 {
	out := filled(len(rows[0]), len(rows), 0)
	for y, row := range rows {
		for x, n := range row {
			out[x][y] = n
		}
	}
	return out
}

// mirrored has the columns from the last to the first.
func mirrored(rows [][]int64) [][]int64 {
	out := copyGrid(rows)
	for _, row := range out {
		slices.Reverse(row)
	}
	return out
}

func depths(below [][]int64, layers ...[][]int64) impl.DepthResult {
	return impl.DepthResult{Layers: layers, Below: below}
}

func depthCode(code int64) impl.DepthResult {
	return impl.DepthResult{Code: code}
}

// gridFaultWant asks all that may be wrong, in the order in which it is told.
func gridFaultWant(rows [][]int64, most int64) int64 {
	var codes faults
	for _, row := range rows[:min(1, len(rows))] {
		codes.wrong(impl.ErrForm, len(row) == 0)
	}
	codes.wrong(impl.ErrForm, len(rows) == 0)
	codes.wrong(impl.ErrMany, len(rows) >= 17)
	for _, row := range rows {
		codes.wrong(impl.ErrMany, len(row) >= 17)
	}
	for _, row := range rows {
		codes.wrong(impl.ErrForm, len(row) != len(rows[0]))
		for _, n := range row {
			codes.wrong(impl.ErrRange, n <= -1, n >= most+1)
		}
	}
	return codes.first()
}

func gridSumWant(rows [][]int64) impl.ShapeInt {
	if code := gridFaultWant(rows, mostValue); code != impl.OK {
		return valueCode(code)
	}
	return value(totalOf(rows))
}

func totalOf(grids ...[][]int64) int64 {
	sum := int64(0)
	for _, row := range slices.Concat(grids...) {
		for _, n := range row {
			sum += n
		}
	}
	return sum
}

// shareWant is the greatest whole number of which whole are no more than share of n.
func shareWant(n int64, share int64, whole int64) int64 {
	return (n*share - n*share%whole) / whole
}

// exposeWant goes down through each place by itself.
func exposeWant(rows [][]int64, share int64, layers int64) impl.DepthResult {
	var codes faults
	codes.found(gridFaultWant(rows, mostValue))
	codes.wrong(impl.ErrRange, share <= -1, share >= 257, layers <= 0, layers >= 9)
	if code := codes.first(); code != impl.OK {
		return depthCode(code)
	}
	out := depths(copyGrid(rows))
	for range layers {
		out.Layers = append(out.Layers, copyGrid(rows))
	}
	for y, row := range rows {
		for x, came := range row {
			for _, layer := range out.Layers {
				layer[y][x] = shareWant(came, share, 256)
				came -= layer[y][x]
			}
			out.Below[y][x] = came
		}
	}
	return out
}

// areBeside tells whether two places differ by 1 in one of their two numbers.
func areBeside(x int, y int, u int, v int) bool {
	return (x-u)*(x-u)+(y-v)*(y-v) == 1
}

// diffuseStepWant reckons each place anew from all places as they were.
func diffuseStepWant(rows [][]int64, share int64) [][]int64 {
	out := copyGrid(rows)
	for y, row := range rows {
		for x, had := range row {
			for v, other := range rows {
				for u, n := range other {
					if areBeside(x, y, u, v) {
						out[y][x] += shareWant(n, share, 64) - shareWant(had, share, 64)
					}
				}
			}
		}
	}
	return out
}

func diffuseWant(rows [][]int64, share int64, steps int64) impl.RowsResult {
	var codes faults
	codes.found(gridFaultWant(rows, mostValue))
	codes.wrong(impl.ErrRange, share <= -1, share >= 17, steps <= -1, steps >= 21)
	if code := codes.first(); code != impl.OK {
		return rowsCode(code)
	}
	for range steps {
		rows = diffuseStepWant(rows, share)
	}
	for _, row := range rows {
		if slices.Max(row) > mostValue {
			return rowsCode(impl.ErrRange)
		}
	}
	return impl.RowsResult{Rows: copyGrid(rows)}
}

// numberWise has what at makes of each number of a grid without that fault.
func numberWise(code int64, rows [][]int64, at func(n int64) int64) impl.RowsResult {
	if code != impl.OK {
		return rowsCode(code)
	}
	var out impl.RowsResult
	for _, row := range rows {
		var list []int64
		for _, n := range row {
			list = append(list, at(n))
		}
		out.Rows = append(out.Rows, list)
	}
	return out
}

// bit is 1 if it holds.
func bit(holds bool) int64 {
	return map[bool]int64{true: 1}[holds]
}

func cutWant(rows [][]int64, level int64) impl.RowsResult {
	return numberWise(gridFaultWant(rows, mostValue), rows, func(n int64) int64 { return bit(n >= level) })
}

func ratesWant(rows [][]int64, table []int64) impl.RowsResult {
	var codes faults
	codes.found(gridFaultWant(rows, mostValue))
	codes.wrong(impl.ErrForm, len(table) == 0)
	codes.wrong(impl.ErrMany, len(table) >= 65)
	for _, n := range table {
		codes.wrong(impl.ErrRange, n <= -1, n >= mostValue+1)
	}
	return numberWise(codes.first(), rows, func(n int64) int64 {
		if n >= int64(len(table)) {
			return table[len(table)-1]
		}
		return table[n]
	})
}

// frontWant lets one place after the other be through, always that which is so the soonest.
func frontWant(rates [][]int64) impl.RowsResult {
	if code := gridFaultWant(rates, mostValue); code != impl.OK {
		return rowsCode(code)
	}
	const never = math.MaxInt64
	times, through := filled(len(rates), len(rates[0]), never), map[[2]int]int64{}
	copy(times[0], rates[0])
	for len(through) < len(rates)*len(rates[0]) {
		var next [2]int
		soonest := int64(never)
		for y, row := range times {
			for x, n := range row {
				if _, done := through[[2]int{x, y}]; !done && n < soonest {
					next, soonest = [2]int{x, y}, n
				}
			}
		}
		through[next] = soonest
		for y, row := range times {
			for x, n := range row {
				if areBeside(x, y, next[0], next[1]) {
					row[x] = min(n, soonest+rates[y][x])
				}
			}
		}
	}
	return impl.RowsResult{Rows: times}
}

// wayTimes goes all ways from the first row that come to no place twice, whatever they take.
func wayTimes(rates [][]int64) [][]int64 {
	times := filled(len(rates), len(rates[0]), math.MaxInt64)
	been := filled(len(rates), len(rates[0]), 0)
	var come func(x int, y int, before int64)
	come = func(x int, y int, before int64) {
		if y < 0 || y >= len(rates) || x < 0 || x >= len(rates[0]) || been[y][x] == 1 {
			return
		}
		been[y][x] = 1
		now := before + rates[y][x]
		times[y][x] = min(times[y][x], now)
		come(x, y-1, now)
		come(x+1, y, now)
		come(x, y+1, now)
		come(x-1, y, now)
		been[y][x] = 0
	}
	for x := range rates[0] {
		come(x, 0, 0)
	}
	return times
}

func checkTimesWant(rates [][]int64, times [][]int64) bool {
	if gridFaultWant(rates, mostValue) != impl.OK || gridFaultWant(times, mostTime) != impl.OK {
		return false
	}
	return sameDoseRows(frontWant(rates), impl.RowsResult{Rows: times})
}

func openWant(times [][]int64, at int64) impl.RowsResult {
	return numberWise(gridFaultWant(times, mostTime), times, func(n int64) int64 { return 1 - bit(n > at) })
}

func sameGrid(a [][]int64, b [][]int64) bool {
	return slices.EqualFunc(a, b, func(r []int64, s []int64) bool { return slices.Equal(r, s) })
}

func sameDepths(a impl.DepthResult, b impl.DepthResult) bool {
	return a.Code == b.Code && slices.EqualFunc(a.Layers, b.Layers, sameGrid) && sameGrid(a.Below, b.Below)
}

func checkDepths(t *testing.T, what string, got impl.DepthResult, want impl.DepthResult) {
	t.Helper()
	if !sameDepths(got, want) {
		t.Errorf("%s: %s, want %s", what, brief(got), brief(want))
	}
}

// someGrid has no fault; its numbers are at most most.
func someGrid(chance *rand.Rand, high int, wide int, most int64) [][]int64 {
	rows := filled(high, wide, 0)
	for _, row := range rows {
		for x := range row {
			row[x] = chance.Int63n(most + 1)
		}
	}
	return rows
}

// someSizes are those of small grids, and of the greatest.
func someSizes() [][2]int {
	return [][2]int{{1, 1}, {1, 2}, {2, 1}, {1, 5}, {5, 1}, {2, 2}, {2, 3}, {3, 2}, {3, 3}, {4, 5}, {7, 3}, {1, 16}, {16, 1}, {16, 16}}
}

// resistEnds stand at and beyond the bounds of chapter 9, and at the ends of int64.
func resistEnds() []int64 {
	list := numbers(0, 1, 2, 8, 9, 15, 16, 17, 19, 20, 21, 63, 64, 65, 255, 256, 257, mostValue-1, mostValue, mostValue+1, mostTime-1, mostTime, mostTime+1,
		1<<32, 1<<32+1, math.MaxInt64-1, math.MaxInt64)
	for _, n := range list {
		list = append(list, -n)
	}
	return append(list, math.MinInt64)
}
