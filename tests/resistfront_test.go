package tests

import (
	"math"
	"math/rand"
	"slices"
	"testing"

	"loop.example/g00057/impl"
)

func checkFront(t *testing.T, what string, rates [][]int64, want impl.RowsResult) {
	t.Helper()
	checkRows(t, what, impl.DevelopTimes(rates), want)
	checkRows(t, what+", plainly", frontWant(rates), want)
}

func TestDevelopTimesByHand(t *testing.T) {
	const wall = mostValue
	for _, c := range []struct {
		name  string
		rates [][]int64
		want  impl.RowsResult
	}{
		{"four places", grid(numbers(1, 9), numbers(3, 4)), doseRows(numbers(1, 9), numbers(4, 8))},
		{"one place", grid(numbers(7)), doseRows(numbers(7))},
		{"one place of 0", grid(numbers(0)), doseRows(numbers(0))},
		{"one row", grid(numbers(5, 0, 9, 1)), doseRows(numbers(5, 0, 9, 1))},
		{"one column", column(5, 0, 9, 1), impl.RowsResult{Rows: column(5, 5, 14, 15)}},
		{"straight down", grid(numbers(1, 1), numbers(2, 2), numbers(3, 3)), doseRows(numbers(1, 1), numbers(3, 3), numbers(6, 6))},
		{"to the right", grid(numbers(1, 9, 9), numbers(1, 1, 1)), doseRows(numbers(1, 9, 9), numbers(2, 3, 4))},
		{"to the left", grid(numbers(9, 9, 1), numbers(1, 1, 1)), doseRows(numbers(9, 9, 1), numbers(4, 3, 2))},
		{"up again", grid(numbers(1, 50, 50), numbers(1, 90, 1), numbers(1, 1, 1)),
			doseRows(numbers(1, 50, 50), numbers(2, 92, 6), numbers(3, 4, 5))},
		{"up again, on the left", grid(numbers(50, 50, 1), numbers(1, 90, 1), numbers(1, 1, 1)),
			doseRows(numbers(50, 50, 1), numbers(6, 92, 2), numbers(5, 4, 3))},
		{"the first row is not come to from below", grid(numbers(0, 5), numbers(0, 0)), doseRows(numbers(0, 5), numbers(0, 0))},
		{"around a wall", grid(numbers(1, 1, 1), numbers(wall, wall, 1), numbers(1, 1, 1)),
			doseRows(numbers(1, 1, 1), numbers(wall+1, wall+1, 2), numbers(5, 4, 3))},
		{"ways of the same length", grid(numbers(1, 2), numbers(3, 2), numbers(5, 5)),
			doseRows(numbers(1, 2), numbers(4, 4), numbers(9, 9))},
		{"through a wall", grid(numbers(0, 0), numbers(wall, wall), numbers(0, 0)),
			doseRows(numbers(0, 0), numbers(wall, wall), numbers(wall, wall))},
		{"all 0", filled(16, 16, 0), impl.RowsResult{Rows: filled(16, 16, 0)}},
		{"0 around a wall", grid(numbers(0, 0, 0), numbers(0, 7, 0), numbers(0, 0, 0)), doseRows(numbers(0, 0, 0), numbers(0, 7, 0), numbers(0, 0, 0))},
		{"a free way beside a slow one", grid(numbers(0, 3), numbers(0, 3), numbers(0, 3)), doseRows(numbers(0, 3), numbers(0, 3), numbers(0, 3))},
	} {
		checkFront(t, c.name, c.rates, c.want)
	}
}

func TestDevelopTimesFaults(t *testing.T) {
	for _, c := range append(gridCases(), gridCase{"above MaxValue", grid(numbers(mostValue + 1)), impl.ErrRange}) {
		want := rowsCode(c.code)
		if c.code == impl.OK {
			want = frontWant(c.rows)
		}
		checkFront(t, c.name, c.rows, want)
	}
}

func TestTheGreatestTimes(t *testing.T) {
	var want impl.RowsResult
	for y := range int64(16) {
		want.Rows = append(want.Rows, slices.Repeat(numbers((y+1)*mostValue), 16))
	}
	checkFront(t, "the greatest", filled(16, 16, mostValue), want)
	checkFront(t, "as high", filled(16, 1, mostValue), impl.RowsResult{Rows: flipped(flipped(want.Rows)[:1])})
	checkFront(t, "as wide", filled(1, 16, mostValue), impl.RowsResult{Rows: filled(1, 16, mostValue)})
}

// mazeDown has rows to go along, with walls between them that are open at one end, in turn.
func mazeDown() [][]int64 {
	rows := filled(16, 16, 1)
	for y := 0; y < 16; y += 2 {
		rows[y] = slices.Repeat(numbers(mostValue), 16)
		rows[y][(y/2%2)*15] = 1
	}
	return rows
}

// mazeUp has columns to go down and up again; the front comes in at the first one alone.
func mazeUp() [][]int64 {
	rows := filled(16, 16, 1)
	for x := 1; x < 16; x += 2 {
		for y := range 16 {
			rows[y][x] = mostValue
		}
		rows[15-(x/2%2)*14][x] = 1
	}
	rows[0] = append(numbers(1), slices.Repeat(numbers(mostValue), 15)...)
	return rows
}

func TestTimesThroughMazes(t *testing.T) {
	for _, rates := range [][][]int64{mazeDown(), mirrored(mazeDown()), mazeUp(), mirrored(mazeUp())} {
		checkFront(t, "a maze", rates, frontWant(rates))
	}
	down, up := impl.DevelopTimes(mazeDown()), impl.DevelopTimes(mazeUp())
	if got := numbers(down.Rows[0][0], down.Rows[1][15], down.Rows[3][0], down.Rows[15][0]); !slices.Equal(got, numbers(1, 17, 34, 136)) {
		t.Errorf("down a maze: %v", got)
	}
	if got := numbers(up.Rows[15][0], up.Rows[1][2], up.Rows[15][4], up.Rows[1][14]); !slices.Equal(got, numbers(16, 32, 48, 128)) {
		t.Errorf("up and down a maze: %v", got)
	}
}

// The times of all small grids are the least of all ways.
func TestTimesAreTheLeastOfAllWays(t *testing.T) {
	list := numbers(0, 1, 5)
	for _, size := range [][2]int{{1, 4}, {4, 1}, {2, 3}, {3, 2}, {3, 3}} {
		all := 1
		for range size[0] * size[1] {
			all *= len(list)
		}
		for n := range all {
			rates := filled(size[0], size[1], 0)
			for _, row := range rates {
				for x := range row {
					row[x] = list[n%len(list)]
					n /= len(list)
				}
			}
			if got := impl.DevelopTimes(rates); !sameDoseRows(got, impl.RowsResult{Rows: wayTimes(rates)}) {
				t.Fatalf("%v: %v, want %v", rates, got, wayTimes(rates))
			}
		}
	}
}

// someRates are even, rough, with walls, or with much of 0.
func someRates(chance *rand.Rand, high int, wide int) [][]int64 {
	rates := someGrid(chance, high, wide, numbers(1, 9, 1000, mostValue)[chance.Intn(4)])
	often := chance.Intn(5)
	for _, row := range rates {
		for x := range row {
			switch {
			case chance.Intn(5) < often:
				row[x] = mostValue
			case chance.Intn(5) < often:
				row[x] = 0
			}
		}
	}
	return rates
}

func TestSomeFronts(t *testing.T) {
	chance := rand.New(rand.NewSource(10))
	for i := range 700 {
		size := someSizes()[i%len(someSizes())]
		rates := someRates(chance, size[0], size[1])
		want := frontWant(rates)
		checkFront(t, "some", rates, want)
		checkFront(t, "some, mirrored", mirrored(rates), impl.RowsResult{Rows: mirrored(want.Rows)})
		for y, row := range want.Rows {
			for x, n := range row {
				if y == 0 && n != rates[y][x] || n < rates[y][x] {
					t.Fatalf("at %d %d the front is through at %d, and it takes %d", x, y, n, rates[y][x])
				}
			}
		}
	}
	for range 60 {
		rates := someRates(chance, 3, 4)
		checkFront(t, "some ways", rates, impl.RowsResult{Rows: wayTimes(rates)})
	}
}

// No place is through later where one place takes less.
func TestFrontsFallWithRates(t *testing.T) {
	chance := rand.New(rand.NewSource(11))
	for range 300 {
		rates := someRates(chance, 1+chance.Intn(6), 1+chance.Intn(6))
		x, y := chance.Intn(len(rates[0])), chance.Intn(len(rates))
		less := impl.DevelopTimes(with(rates, x, y, rates[y][x]/2))
		for v, row := range impl.DevelopTimes(rates).Rows {
			for u, n := range row {
				if less.Rows[v][u] > n {
					t.Fatalf("%v, less at %d %d: at %d %d it is %d, and was %d", rates, x, y, u, v, less.Rows[v][u], n)
				}
			}
		}
	}
}

func checkHolds(t *testing.T, what string, rates [][]int64, times [][]int64, want bool) {
	t.Helper()
	if got := impl.CheckTimes(rates, times); got != want {
		t.Errorf("%s, %s of %s: %v", what, brief(times), brief(rates), got)
	}
	if got := checkTimesWant(rates, times); got != want {
		t.Errorf("%s, %s of %s, plainly: %v", what, brief(times), brief(rates), got)
	}
}

func TestCheckTimesByHand(t *testing.T) {
	rates, times := grid(numbers(1, 9), numbers(3, 4)), grid(numbers(1, 9), numbers(4, 8))
	for _, c := range []struct {
		name         string
		rates, times [][]int64
		want         bool
	}{
		{"its times", rates, times, true},
		{"its rates", rates, rates, false},
		{"one row is its times", rates[:1], rates[:1], true},
		{"one place", grid(numbers(0)), grid(numbers(0)), true},
		{"straight down", rates, grid(numbers(1, 9), numbers(4, 13)), false},
		{"no rows", nil, nil, false},
		{"empty rows", grid(nil), grid(nil), false},
		{"no times", rates, nil, false},
		{"no rates", nil, times, false},
		{"a row less", rates, times[:1], false},
		{"a row more", rates[:1], grid(numbers(1, 9), numbers(1, 9)), false},
		{"an empty row more", rates, grid(numbers(1, 9), numbers(4, 8), nil), false},
		{"a column less", rates, column(1, 4), false},
		{"a column more", column(1, 3), times, false},
		{"as many places", grid(numbers(1, 2)), column(1, 2), false},
		{"one time more", rates, grid(numbers(1, 9), numbers(4, 8, 8)), false},
		{"one time less", rates, grid(numbers(1, 9), numbers(4)), false},
		{"wrong rates", grid(numbers(-1)), grid(numbers(-1)), false},
		{"rates above MaxValue", grid(numbers(mostValue + 1)), grid(numbers(mostValue + 1)), false},
		{"rates at MaxValue", grid(numbers(mostValue)), grid(numbers(mostValue)), true},
		{"times above MaxValue", column(mostValue, mostValue), column(mostValue, 2*mostValue), true},
		{"the greatest time", grid(numbers(mostValue)), grid(numbers(mostTime)), false},
		{"above it", grid(numbers(mostValue)), grid(numbers(mostTime + 1)), false},
		{"rates of another length", grid(numbers(1), numbers(1, 2)), grid(numbers(1), numbers(2, 3)), false},
		{"too wide", filled(1, 17, 1), filled(1, 17, 1), false},
		{"too high", filled(17, 1, 0), filled(17, 1, 0), false},
		{"as wide as can be", filled(1, 16, 1), filled(1, 16, 1), true},
		{"as high as can be", filled(16, 1, 0), filled(16, 1, 0), true},
		{"the greatest of all", filled(16, 16, mostValue), filled(16, 16, mostTime), false},
		{"very many rows", rates, make([][]int64, 3000), false},
	} {
		checkHolds(t, c.name, c.rates, c.times, c.want)
	}
}

func TestCheckTimesWithFaults(t *testing.T) {
	good := grid(numbers(1, 2))
	for _, c := range gridCases() {
		checkHolds(t, c.name+", both", c.rows, c.rows, c.code == impl.OK && checkTimesWant(c.rows, c.rows))
		checkHolds(t, c.name+", as times", good, c.rows, false)
		checkHolds(t, c.name+", as rates", c.rows, good, false)
	}
}

// Each time, turned by 1 either way or to an end, is told.
func TestTurnedTimes(t *testing.T) {
	chance := rand.New(rand.NewSource(12))
	for i := range 60 {
		size := someSizes()[i%len(someSizes())]
		rates := someRates(chance, size[0], size[1])
		times := impl.DevelopTimes(rates).Rows
		checkHolds(t, "its times", rates, times, true)
		for y, row := range times {
			for x, n := range row {
				for _, turned := range numbers(n-1, n+1, mostTime, mostTime+1, -1, math.MinInt64, math.MaxInt64) {
					if impl.CheckTimes(rates, with(times, x, y, turned)) {
						t.Fatalf("%s of %s holds with %d at %d %d", brief(times), brief(rates), turned, x, y)
					}
				}
			}
		}
	}
}

// Times that each fit those beside them are not enough: places of 0 may hold up each other.
func TestTimesThatHoldUpEachOther(t *testing.T) {
	rates := grid(numbers(5, 5), numbers(0, 0))
	checkHolds(t, "the least", rates, grid(numbers(5, 5), numbers(5, 5)), true)
	checkHolds(t, "less below", rates, grid(numbers(5, 5), numbers(3, 3)), false)
	checkHolds(t, "more below", rates, grid(numbers(5, 5), numbers(6, 6)), false)
}

func TestOpenAtByHand(t *testing.T) {
	times := grid(numbers(0, 4, 5), numbers(6, 5, mostTime))
	for _, c := range []struct {
		at   int64
		want impl.RowsResult
	}{
		{4, doseRows(numbers(1, 1, 0), numbers(0, 0, 0))},
		{5, doseRows(numbers(1, 1, 1), numbers(0, 1, 0))},
		{6, doseRows(numbers(1, 1, 1), numbers(1, 1, 0))},
		{0, doseRows(numbers(1, 0, 0), numbers(0, 0, 0))},
		{-1, doseRows(numbers(0, 0, 0), numbers(0, 0, 0))},
		{mostTime - 1, doseRows(numbers(1, 1, 1), numbers(1, 1, 0))},
		{mostTime, doseRows(numbers(1, 1, 1), numbers(1, 1, 1))},
		{mostTime + 1, doseRows(numbers(1, 1, 1), numbers(1, 1, 1))},
		{math.MinInt64, doseRows(numbers(0, 0, 0), numbers(0, 0, 0))},
		{math.MaxInt64, doseRows(numbers(1, 1, 1), numbers(1, 1, 1))},
	} {
		checkRows(t, "six times", impl.OpenAt(times, c.at), c.want)
		checkRows(t, "six times, plainly", openWant(times, c.at), c.want)
	}
}

func TestOpenAtFaults(t *testing.T) {
	for _, c := range append(gridCases(),
		gridCase{"above MaxValue", grid(numbers(mostValue + 1)), impl.OK},
		gridCase{"the greatest time", grid(numbers(mostTime)), impl.OK},
		gridCase{"above it", grid(numbers(mostTime + 1)), impl.ErrRange},
		gridCase{"above it, then longer", grid(numbers(mostTime+1), numbers(1, 2)), impl.ErrRange},
		gridCase{"longer, and above it", grid(numbers(1), numbers(mostTime+1, 2)), impl.ErrForm},
		gridCase{"longer, then above it", grid(numbers(1), numbers(1, 2), numbers(mostTime+1)), impl.ErrForm},
		gridCase{"above it, then too long", grid(numbers(mostTime+1), make([]int64, 17)), impl.ErrMany},
		gridCase{"the greatest of all", filled(16, 16, mostTime), impl.OK}) {
		for _, at := range numbers(math.MinInt64, -1, 0, 7, mostTime, math.MaxInt64) {
			want := rowsCode(c.code)
			if c.code == impl.OK {
				want = openWant(c.rows, at)
			}
			checkRows(t, c.name, impl.OpenAt(c.rows, at), want)
			checkRows(t, c.name+", plainly", openWant(c.rows, at), want)
		}
	}
}

// A wrong time is found wherever it stands.
func TestOpenAtEachPlace(t *testing.T) {
	for _, size := range someSizes() {
		bare := filled(size[0], size[1], 9)
		for _, n := range resistEnds() {
			for y := range size[0] {
				for x := range size[1] {
					times := with(bare, x, y, n)
					checkRows(t, "one time", impl.OpenAt(times, 9), openWant(times, 9))
				}
			}
		}
	}
}

// What is open stays open, and at the last time all is.
func TestOpeningGoesOn(t *testing.T) {
	chance := rand.New(rand.NewSource(13))
	for range 200 {
		times := impl.DevelopTimes(someRates(chance, 1+chance.Intn(6), 1+chance.Intn(6))).Rows
		all := slices.Concat(times...)
		slices.Sort(all)
		before := int64(0)
		for _, at := range all {
			got := impl.OpenAt(times, at)
			checkRows(t, "open", got, openWant(times, at))
			if now := totalOf(got.Rows); now < before {
				t.Fatalf("%v at %d: %d are open, and %d were", times, at, now, before)
			} else {
				before = now
			}
		}
		if before != int64(len(all)) {
			t.Fatalf("%v: %d are open in the end", times, before)
		}
	}
}
