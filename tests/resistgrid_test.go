package tests

import (
	"math"
	"math/rand"
	"slices"
	"testing"

	"loop.example/g00057/impl"
)

// gridCase is a grid with the code that it has.
type gridCase struct {
	name string
	rows [][]int64
	code int64
}

// gridCases are without numbers that are too great, so that they are told alike of grids and of times.
func gridCases() []gridCase {
	return []gridCase{
		{"nil", nil, impl.ErrForm},
		{"no rows", [][]int64{}, impl.ErrForm},
		{"the first is nil", grid(nil), impl.ErrForm},
		{"the first is empty", grid(numbers()), impl.ErrForm},
		{"the first is empty, the second is not", grid(nil, numbers(1)), impl.ErrForm},
		{"all are empty", make([][]int64, 3), impl.ErrForm},
		{"one place", grid(numbers(0)), impl.OK},
		{"two places", grid(numbers(0, 1)), impl.OK},
		{"one column", column(1, 2, 3), impl.OK},
		{"the second is empty", grid(numbers(1), nil), impl.ErrForm},
		{"the last is empty", grid(numbers(1, 2), numbers(1, 2), numbers()), impl.ErrForm},
		{"the second is longer", grid(numbers(1, 2), numbers(1, 2, 3)), impl.ErrForm},
		{"the second is shorter", grid(numbers(1, 2), numbers(1)), impl.ErrForm},
		{"the third is longer", grid(numbers(1), numbers(2), numbers(3, 4)), impl.ErrForm},
		{"the third is shorter", grid(numbers(1, 2), numbers(1, 2), numbers(3)), impl.ErrForm},
		{"fifteen rows", filled(15, 1, 7), impl.OK},
		{"sixteen rows", filled(16, 1, 7), impl.OK},
		{"seventeen rows", filled(17, 1, 7), impl.ErrMany},
		{"rows of fifteen", filled(1, 15, 7), impl.OK},
		{"rows of sixteen", filled(1, 16, 7), impl.OK},
		{"rows of seventeen", filled(1, 17, 7), impl.ErrMany},
		{"as high and wide as can be", filled(16, 16, 7), impl.OK},
		{"higher and wider", filled(17, 17, 7), impl.ErrMany},
		{"the second of seventeen", grid(numbers(1), make([]int64, 17)), impl.ErrMany},
		{"the second of seventeen, the first of sixteen", grid(make([]int64, 16), make([]int64, 17)), impl.ErrMany},
		{"the last of seventeen", append(filled(15, 16, 7), make([]int64, 17)), impl.ErrMany},
		{"the first alone of seventeen", grid(make([]int64, 17), numbers(1)), impl.ErrMany},
		{"very many rows", make([][]int64, 3000), impl.ErrForm},
		{"very many rows, the first not empty", append(filled(1, 1, 7), make([][]int64, 3000)...), impl.ErrMany},
		{"a very long row", filled(1, 3000, 7), impl.ErrMany},
		{"-1", grid(numbers(-1)), impl.ErrRange},
		{"the least", grid(numbers(math.MinInt64)), impl.ErrRange},
		{"the greatest", grid(numbers(math.MaxInt64)), impl.ErrRange},
		{"a number of the last row", grid(numbers(1, 2), numbers(1, -1)), impl.ErrRange},

		{"the first is empty, seventeen rows", make([][]int64, 17), impl.ErrForm},
		{"the first is empty, the second too long", grid(nil, make([]int64, 17)), impl.ErrForm},
		{"the first is empty, the second is wrong", grid(nil, numbers(-1)), impl.ErrForm},
		{"seventeen rows, the second shorter", append(grid(numbers(1, 2)), filled(16, 1, 7)...), impl.ErrMany},
		{"seventeen rows, the first wrong", append(grid(numbers(-1)), filled(16, 1, 7)...), impl.ErrMany},
		{"the first wrong, the last too long", grid(numbers(-1), make([]int64, 17)), impl.ErrMany},
		{"the second longer, the last too long", grid(numbers(1), numbers(1, 2), make([]int64, 17)), impl.ErrMany},
		{"too long, and wrong", filled(1, 17, -1), impl.ErrMany},
		{"in one row: longer, and wrong", grid(numbers(1), numbers(1, -1)), impl.ErrForm},
		{"in one row: shorter, and wrong", grid(numbers(1, 2), numbers(-1)), impl.ErrForm},
		{"the first wrong, the second longer", grid(numbers(-1), numbers(1, 2)), impl.ErrRange},
		{"the first wrong, the second empty", grid(numbers(-1), nil), impl.ErrRange},
		{"the second wrong, the third shorter", grid(numbers(1, 2), numbers(1, -1), numbers(1)), impl.ErrRange},
		{"the second shorter, the third wrong", grid(numbers(1, 2), numbers(1), numbers(1, -1)), impl.ErrForm},
		{"the second shorter, the last number of the first wrong", grid(numbers(1, -1), numbers(1)), impl.ErrRange},
	}
}

func checkGridFault(t *testing.T, what string, rows [][]int64, want int64) {
	t.Helper()
	if got := impl.GridFault(rows); got != want {
		t.Errorf("%s, %s: %d, want %d", what, brief(rows), got, want)
	}
	if got := gridFaultWant(rows, mostValue); got != want {
		t.Errorf("%s, %s, plainly: %d, want %d", what, brief(rows), got, want)
	}
}

func TestGridFaultByHand(t *testing.T) {
	for _, c := range gridCases() {
		checkGridFault(t, c.name, c.rows, c.code)
	}
	for _, c := range []gridCase{
		{"MaxValue", grid(numbers(mostValue)), impl.OK},
		{"above MaxValue", grid(numbers(mostValue + 1)), impl.ErrRange},
		{"a time", grid(numbers(mostTime)), impl.ErrRange},
		{"above MaxValue, then longer", grid(numbers(mostValue+1), numbers(1, 2)), impl.ErrRange},
		{"longer, and above MaxValue", grid(numbers(1), numbers(mostValue+1, 2)), impl.ErrForm},
		{"the greatest of all", filled(16, 16, mostValue), impl.OK},
	} {
		checkGridFault(t, c.name, c.rows, c.code)
	}
}

// A wrong number is found wherever it stands.
func TestGridFaultAtEachPlace(t *testing.T) {
	for _, size := range someSizes() {
		bare := filled(size[0], size[1], mostValue)
		for _, n := range resistEnds() {
			want := int64(impl.ErrRange)
			if n >= 0 && n <= mostValue {
				want = impl.OK
			}
			for y := range size[0] {
				for x := range size[1] {
					checkGridFault(t, "one number", with(bare, x, y, n), want)
				}
			}
		}
	}
}

// Every list of up to three rows of up to three numbers, one of which may be wrong.
func TestGridFaultOfAllSmall(t *testing.T) {
	met := map[int64]int{}
	check := func(rows [][]int64) {
		got, want := impl.GridFault(rows), gridFaultWant(rows, mostValue)
		if got != want {
			t.Fatalf("%v: %d, want %d", rows, got, want)
		}
		met[got]++
	}
	for high := range 4 {
		for lengths := range 4 * 4 * 4 {
			var rows [][]int64
			for y := range high {
				rows = append(rows, make([]int64, lengths>>(2*y)&3))
			}
			check(rows)
			for y, row := range rows {
				for x := range row {
					check(with(rows, x, y, -1))
					check(with(rows, x, y, mostValue+1))
				}
			}
		}
	}
	if min(met[impl.OK], met[impl.ErrForm], met[impl.ErrRange]) < 50 {
		t.Errorf("the codes are %v", met)
	}
}

// One row of another length, wherever it stands.
func TestGridFaultOfOneRow(t *testing.T) {
	for _, high := range []int{1, 2, 3, 15, 16, 17} {
		for _, wide := range []int{1, 2, 15, 16, 17} {
			for y := range high {
				for _, long := range []int{0, 1, 2, 14, 15, 16, 17, 18, 300} {
					rows := filled(high, wide, 3)
					rows[y] = make([]int64, long)
					checkGridFault(t, "one row", rows, gridFaultWant(rows, mostValue))
				}
			}
		}
	}
}

func TestSumOfByHand(t *testing.T) {
	for _, c := range []struct {
		name string
		rows [][]int64
		want impl.ShapeInt
	}{
		{"0", grid(numbers(0)), value(0)},
		{"one number", grid(numbers(5)), value(5)},
		{"a row", grid(numbers(1, 2, 3)), value(6)},
		{"a column", column(10, 20, 3), value(33)},
		{"two rows", grid(numbers(1, 20), numbers(300, 4000)), value(4321)},
		{"the greatest", filled(16, 16, mostValue), value(256000000)},
		{"MaxValue", grid(numbers(mostValue)), value(1000000)},
		{"above it", grid(numbers(mostValue + 1)), valueCode(impl.ErrRange)},
	} {
		checkValue(t, c.name, impl.SumOf(c.rows), c.want)
		checkValue(t, c.name+", plainly", gridSumWant(c.rows), c.want)
	}
	for _, c := range gridCases() {
		want := valueCode(c.code)
		if c.code == impl.OK {
			want = value(totalOf(c.rows))
		}
		checkValue(t, c.name, impl.SumOf(c.rows), want)
	}
}

// Each place counts once.
func TestSumOfEachPlace(t *testing.T) {
	for _, size := range someSizes() {
		for y := range size[0] {
			for x := range size[1] {
				checkValue(t, "one place", impl.SumOf(with(filled(size[0], size[1], 0), x, y, 7)), value(7))
			}
		}
	}
	chance := rand.New(rand.NewSource(3))
	for range 500 {
		rows := someGrid(chance, 1+chance.Intn(16), 1+chance.Intn(16), mostValue)
		checkValue(t, "some", impl.SumOf(rows), gridSumWant(rows))
		checkValue(t, "some, flipped", impl.SumOf(flipped(rows)), gridSumWant(rows))
	}
}

func TestCutGridByHand(t *testing.T) {
	rows := grid(numbers(0, 4, 5), numbers(6, 5, mostValue))
	for _, c := range []struct {
		level int64
		want  impl.RowsResult
	}{
		{4, doseRows(numbers(0, 1, 1), numbers(1, 1, 1))},
		{5, doseRows(numbers(0, 0, 1), numbers(1, 1, 1))},
		{6, doseRows(numbers(0, 0, 0), numbers(1, 0, 1))},
		{0, doseRows(numbers(1, 1, 1), numbers(1, 1, 1))},
		{1, doseRows(numbers(0, 1, 1), numbers(1, 1, 1))},
		{-1, doseRows(numbers(1, 1, 1), numbers(1, 1, 1))},
		{mostValue, doseRows(numbers(0, 0, 0), numbers(0, 0, 1))},
		{mostValue + 1, doseRows(numbers(0, 0, 0), numbers(0, 0, 0))},
		{math.MinInt64, doseRows(numbers(1, 1, 1), numbers(1, 1, 1))},
		{math.MaxInt64, doseRows(numbers(0, 0, 0), numbers(0, 0, 0))},
	} {
		checkRows(t, "six numbers", impl.CutGrid(rows, c.level), c.want)
		checkRows(t, "six numbers, plainly", cutWant(rows, c.level), c.want)
	}
}

func TestCutGridFaults(t *testing.T) {
	for _, c := range append(gridCases(), gridCase{"above MaxValue", grid(numbers(mostValue + 1)), impl.ErrRange}) {
		for _, level := range numbers(math.MinInt64, 0, 3, math.MaxInt64) {
			want := rowsCode(c.code)
			if c.code == impl.OK {
				want = cutWant(c.rows, level)
			}
			checkRows(t, c.name, impl.CutGrid(c.rows, level), want)
		}
	}
}

func TestCutGridAtEachLevel(t *testing.T) {
	chance := rand.New(rand.NewSource(4))
	for _, size := range someSizes() {
		for _, level := range append(resistEnds(), placesFrom(-1, 10)...) {
			rows := someGrid(chance, size[0], size[1], 9)
			checkRows(t, "some", impl.CutGrid(rows, level), cutWant(rows, level))
			high := filled(size[0], size[1], clampedTo(level, 0, mostValue))
			checkRows(t, "at the level", impl.CutGrid(high, level), cutWant(high, level))
		}
	}
}

func clampedTo(n int64, least int64, most int64) int64 {
	return max(least, min(most, n))
}

func TestRatesOfByHand(t *testing.T) {
	for _, c := range []struct {
		name  string
		rows  [][]int64
		table []int64
		want  impl.RowsResult
	}{
		{"three numbers", grid(numbers(0, 1), numbers(2, 1)), numbers(10, 20, 30), doseRows(numbers(10, 20), numbers(30, 20))},
		{"at the last, and beyond it", grid(numbers(1, 2, 3, 4)), numbers(10, 20, 30), doseRows(numbers(20, 30, 30, 30))},
		{"far beyond it", grid(numbers(mostValue, 0)), numbers(10, 20, 30), doseRows(numbers(30, 10))},
		{"one number", grid(numbers(0, 1, 2)), numbers(7), doseRows(numbers(7, 7, 7))},
		{"the greatest number", grid(numbers(0, 1)), numbers(mostValue, 0), doseRows(numbers(mostValue, 0))},
		{"numbers that fall", column(0, 1, 2, 3), numbers(9, 6, 3, 0), impl.RowsResult{Rows: column(9, 6, 3, 0)}},
		{"sixty-four", grid(numbers(0, 62, 63, 64, 65)), placesFrom(100, 163), doseRows(numbers(100, 162, 163, 163, 163))},
	} {
		checkRows(t, c.name, impl.RatesOf(c.rows, c.table), c.want)
		checkRows(t, c.name+", plainly", ratesWant(c.rows, c.table), c.want)
	}
}

func TestRatesOfFaults(t *testing.T) {
	good := grid(numbers(0, 1))
	for _, c := range []struct {
		name  string
		rows  [][]int64
		table []int64
		code  int64
	}{
		{"a nil table", good, nil, impl.ErrForm},
		{"an empty table", good, numbers(), impl.ErrForm},
		{"sixty-five", good, make([]int64, 65), impl.ErrMany},
		{"very many", good, make([]int64, 3000), impl.ErrMany},
		{"sixty-five, one wrong", good, append(make([]int64, 64), -1), impl.ErrMany},
		{"sixty-five, the first wrong", good, append(numbers(-1), make([]int64, 64)...), impl.ErrMany},
		{"-1", good, numbers(-1), impl.ErrRange},
		{"above MaxValue", good, numbers(mostValue + 1), impl.ErrRange},
		{"the least", good, numbers(math.MinInt64), impl.ErrRange},
		{"the greatest", good, numbers(math.MaxInt64), impl.ErrRange},
		{"a number that is not asked", good, numbers(1, 2, 3, -1), impl.ErrRange},
		{"a grid of no rows, no table", nil, nil, impl.ErrForm},
		{"a wrong number, no table", grid(numbers(-1)), nil, impl.ErrRange},
		{"a wide grid, no table", filled(1, 17, 0), nil, impl.ErrMany},
		{"a grid of no rows, a long table", nil, make([]int64, 65), impl.ErrForm},
		{"a wrong number, a long table", grid(numbers(mostValue + 1)), make([]int64, 65), impl.ErrRange},
		{"a wide grid, a wrong table", filled(1, 17, 0), numbers(-1), impl.ErrMany},
		{"a grid of no rows, a wrong table", nil, numbers(-1), impl.ErrForm},
	} {
		checkRows(t, c.name, impl.RatesOf(c.rows, c.table), rowsCode(c.code))
		checkRows(t, c.name+", plainly", ratesWant(c.rows, c.table), rowsCode(c.code))
	}
	for _, c := range gridCases() {
		checkRows(t, c.name, impl.RatesOf(c.rows, numbers(3, 1)), ratesWant(c.rows, numbers(3, 1)))
	}
}

// A wrong number is found wherever it stands, in tables of every length.
func TestRatesOfEachTable(t *testing.T) {
	rows := grid(placesFrom(0, 15), placesFrom(51, 66))
	for n := range 67 {
		table := make([]int64, n)
		for i := range table {
			table[i] = mostValue - int64(i*i)
		}
		checkRows(t, "squares", impl.RatesOf(rows, table), ratesWant(rows, table))
		for at := range table {
			for _, number := range resistEnds() {
				turned := slices.Clone(table)
				turned[at] = number
				checkRows(t, "one turned", impl.RatesOf(rows, turned), ratesWant(rows, turned))
			}
		}
	}
}
