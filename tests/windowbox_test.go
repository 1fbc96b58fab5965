package tests

import (
	"math/rand"
	"slices"
	"testing"

	"loop.example/g00057/impl"
)

func TestLargestWindowByHand(t *testing.T) {
	for _, c := range []struct {
		name string
		rows [][]int64
		want impl.WindowResult
	}{
		{"one place", grid(numbers(1)), window(1, box(0, 0, 1, 1))},
		{"one place, of 0", grid(numbers(0)), windowCode(impl.ErrNone)},
		{"none", filled(3, 4, 0), windowCode(impl.ErrNone)},
		{"none at all", filled(16, 16, 0), windowCode(impl.ErrNone)},
		{"all", filled(3, 4, 1), window(12, box(0, 0, 4, 3))},
		{"all that can be", filled(16, 16, 1), window(256, box(0, 0, 16, 16))},
		{"one 1 within", with(filled(3, 4, 0), 2, 1, 1), window(1, box(2, 1, 3, 2))},
		{"one 1, the first", with(filled(3, 4, 0), 0, 0, 1), window(1, box(0, 0, 1, 1))},
		{"one 1, the last", with(filled(3, 4, 0), 3, 2, 1), window(1, box(3, 2, 4, 3))},
		{"one 1, last in its row", with(filled(3, 4, 0), 3, 0, 1), window(1, box(3, 0, 4, 1))},
		{"one 1, last in its column", with(filled(3, 4, 0), 0, 2, 1), window(1, box(0, 2, 1, 3))},
		{"one row", grid(numbers(1, 0, 1, 1, 0, 1)), window(2, box(2, 0, 4, 1))},
		{"one row, at its end", grid(numbers(1, 1, 0, 1, 1, 1)), window(3, box(3, 0, 6, 1))},
		{"one row, all", filled(1, 16, 1), window(16, box(0, 0, 16, 1))},
		{"one column", column(1, 0, 1, 1, 0, 1), window(2, box(0, 2, 1, 4))},
		{"one column, at its end", column(1, 1, 0, 1, 1, 1), window(3, box(0, 3, 1, 6))},
		{"one column, all", filled(16, 1, 1), window(16, box(0, 0, 1, 16))},
		{"a hole in the middle", with(filled(3, 3, 1), 1, 1, 0), window(3, box(0, 0, 3, 1))},
		{"a corner is missing", with(filled(3, 3, 1), 0, 0, 0), window(6, box(1, 0, 3, 3))},
		{"the last corner is missing", with(filled(3, 3, 1), 2, 2, 0), window(6, box(0, 0, 3, 2))},
		{"steps", grid(numbers(1, 0, 0, 0), numbers(1, 1, 0, 0), numbers(1, 1, 1, 0), numbers(1, 1, 1, 1)), window(6, box(0, 1, 2, 4))},
		{"steps that fall", grid(numbers(1, 1, 1, 1), numbers(1, 1, 1, 0), numbers(1, 1, 0, 0), numbers(1, 0, 0, 0)), window(6, box(0, 0, 3, 2))},
		{"a cross", grid(numbers(0, 1, 0), numbers(1, 1, 1), numbers(0, 1, 0)), window(3, box(1, 0, 2, 3))},
		{"wide beats high", grid(numbers(1, 0, 0, 0), numbers(1, 0, 0, 0), numbers(1, 1, 1, 1)), window(4, box(0, 2, 4, 3))},
		{"a greater one behind a less", grid(numbers(1, 1, 0, 0), numbers(0, 0, 1, 1), numbers(0, 0, 1, 1)), window(4, box(2, 1, 4, 3))},
	} {
		checkLargest(t, c.name, c.rows, c.want)
		if got := largestWant(c.rows); got != c.want {
			t.Errorf("%s, plainly: %v, want %v", c.name, got, c.want)
		}
	}
}

// Of several windows of the greatest area one is told.
func TestTiesOfWindows(t *testing.T) {
	for _, c := range []struct {
		name string
		rows [][]int64
		want impl.WindowResult
	}{
		{"they differ in Y0", grid(numbers(1, 1), numbers(0, 0), numbers(1, 1)), window(2, box(0, 0, 2, 1))},
		{"they differ in X0", grid(numbers(1, 1, 0, 1, 1)), window(2, box(0, 0, 2, 1))},
		{"a row of two and a column of two from one place", grid(numbers(1, 1), numbers(1, 0)), window(2, box(0, 0, 2, 1))},
		{"a row of two and a column of two to one place", grid(numbers(0, 1), numbers(1, 1)), window(2, box(1, 0, 2, 2))},
		{"a column and a row, neither from the first place", grid(numbers(0, 0, 0), numbers(0, 1, 1), numbers(0, 1, 0)), window(2, box(1, 1, 3, 2))},
		{"a column of two, and a row of two below it", grid(numbers(1, 0), numbers(1, 0), numbers(0, 0), numbers(1, 1)), window(2, box(0, 0, 1, 2))},
		{"the least Y0, though X0 is greater", grid(numbers(0, 0, 1), numbers(1, 0, 0)), window(1, box(2, 0, 3, 1))},
		{"the least Y0, though Y1 is greater", grid(numbers(0, 0, 1), numbers(1, 1, 1), numbers(0, 0, 1)), window(3, box(2, 0, 3, 3))},
		{"the least X0, though Y1 is greater", grid(numbers(1, 0, 1, 1), numbers(1, 0, 0, 0)), window(2, box(0, 0, 1, 2))},
		{"three of four from one place", grid(numbers(1, 1, 1, 1), numbers(1, 1, 0, 0), numbers(1, 0, 0, 0), numbers(1, 0, 0, 0)), window(4, box(0, 0, 4, 1))},
		{"two of six from one place", grid(numbers(1, 1, 1), numbers(1, 1, 1), numbers(1, 1, 0)), window(6, box(0, 0, 3, 2))},
		{"all single", grid(numbers(0, 1, 0), numbers(1, 0, 1), numbers(0, 1, 0)), window(1, box(1, 0, 2, 1))},
		{"as a chessboard", grid(numbers(1, 0, 1), numbers(0, 1, 0), numbers(1, 0, 1)), window(1, box(0, 0, 1, 1))},
	} {
		checkLargest(t, c.name, c.rows, c.want)
		if got := largestWant(c.rows); got != c.want {
			t.Errorf("%s, plainly: %v, want %v", c.name, got, c.want)
		}
	}
}

// The codes stand in their order: the grid, a number above 1, none is 1.
func TestFaultsOfWindows(t *testing.T) {
	for _, c := range []gridCase{
		{"2 alone", grid(numbers(2)), impl.ErrForm},
		{"2 beside a 1", grid(numbers(1, 2)), impl.ErrForm},
		{"2 beside 0 alone", grid(numbers(0, 2)), impl.ErrForm},
		{"2 in the last place", with(filled(3, 3, 1), 2, 2, 2), impl.ErrForm},
		{"MaxValue", grid(numbers(1, mostValue)), impl.ErrForm},
		{"above MaxValue", grid(numbers(1, mostValue+1)), impl.ErrRange},
		{"-1", grid(numbers(1, -1)), impl.ErrRange},
		{"2, then -1", grid(numbers(2, 0), numbers(0, -1)), impl.ErrRange},
		{"2, then a shorter row", grid(numbers(2, 0), numbers(0)), impl.ErrForm},
		{"2, then a row that is too long", grid(numbers(2, 0), make([]int64, 17)), impl.ErrMany},
		{"2, and too many rows", filled(17, 1, 2), impl.ErrMany},
		{"none is 1, then -1", grid(numbers(0, 0), numbers(0, -1)), impl.ErrRange},
		{"none is 1, and too many rows", filled(17, 1, 0), impl.ErrMany},
	} {
		checkLargest(t, c.name, c.rows, windowCode(c.code))
		if got := largestWant(c.rows); got != windowCode(c.code) {
			t.Errorf("%s, plainly: %v, want code %d", c.name, got, c.code)
		}
	}
	for _, c := range gridFaultCases() {
		want := largestWant(c.rows)
		checkLargest(t, c.name, c.rows, want)
		if c.code != impl.OK && want != windowCode(c.code) {
			t.Errorf("%s, plainly: %v, want code %d", c.name, want, c.code)
		}
	}
}

// A number beyond 1 is told wherever it stands.
func TestWindowsWithOneNumber(t *testing.T) {
	for _, size := range someSizes() {
		for y := range size[0] {
			for x := range size[1] {
				for _, n := range windowEnds() {
					if n == 0 || n == 1 {
						continue
					}
					code := int64(impl.ErrForm)
					if n < 0 || n > mostValue {
						code = impl.ErrRange
					}
					rows := with(filled(size[0], size[1], 1), x, y, n)
					checkLargest(t, "one number", rows, windowCode(code))
					checkWindowHolds(t, "one number", rows, window(1, box(0, 0, 1, 1)), false)
				}
			}
		}
	}
}

// Every map of these sizes.
func TestAllSmallMaps(t *testing.T) {
	for _, size := range [][2]int{{1, 1}, {1, 2}, {2, 1}, {2, 2}, {1, 9}, {9, 1}, {3, 3}, {2, 5}, {5, 2}, {3, 4}, {4, 3}} {
		for bits := range 1 << (size[0] * size[1]) {
			rows := bitMap(bits, size[0], size[1])
			checkLargest(t, "a small map", rows, largestWant(rows))
		}
	}
}

// One box of 1, wherever it lies, with nothing else.
func TestEachBoxAlone(t *testing.T) {
	for _, size := range [][2]int{{1, 1}, {1, 5}, {5, 1}, {3, 4}, {5, 5}, {16, 3}, {3, 16}} {
		none := filled(size[0], size[1], 0)
		for _, b := range allBoxes(none) {
			rows := copyGrid(none)
			for y := b.Y0; y < b.Y1; y++ {
				for x := b.X0; x < b.X1; x++ {
					rows[y][x] = 1
				}
			}
			checkLargest(t, "one box", rows, window((b.X1-b.X0)*(b.Y1-b.Y0), b))
		}
	}
}

func TestSomeWindows(t *testing.T) {
	chance := rand.New(rand.NewSource(104))
	for i := range 1500 {
		rows := somePass(chance, 1+chance.Intn(8), 1+chance.Intn(8), 1+i%8)
		checkLargest(t, "some", rows, largestWant(rows))
	}
	for i := range 40 {
		rows := somePass(chance, 16, 16, 1+i%8)
		checkLargest(t, "some of the greatest", rows, largestWant(rows))
	}
}

// The area is that of the map flipped and mirrored, and a 1 more never makes it less.
func TestLawsOfWindows(t *testing.T) {
	chance := rand.New(rand.NewSource(105))
	for i := range 400 {
		rows := somePass(chance, 1+chance.Intn(16), 1+chance.Intn(16), 1+i%8)
		area := impl.LargestWindow(rows).Area
		for _, turned := range [][][]int64{flipped(rows), mirrored(rows), flipped(mirrored(flipped(rows)))} {
			if got := impl.LargestWindow(turned).Area; got != area {
				t.Errorf("%v: the area is %d, and of %v %d", rows, area, turned, got)
			}
		}
		more := with(rows, chance.Intn(len(rows[0])), chance.Intn(len(rows)), 1)
		if got := impl.LargestWindow(more).Area; got < area {
			t.Errorf("%v: the area is %d, and with a 1 more %d", rows, area, got)
		}
	}
}

func TestCheckWindowByHand(t *testing.T) {
	rows := grid(numbers(1, 1, 0, 1), numbers(1, 1, 0, 1), numbers(0, 0, 0, 1), numbers(0, 1, 0, 1))
	right, other := window(4, box(0, 0, 2, 2)), window(4, box(3, 0, 4, 4))
	coded := func(w impl.WindowResult, code int64) impl.WindowResult {
		w.Code = code
		return w
	}
	for _, c := range []struct {
		name string
		rows [][]int64
		w    impl.WindowResult
		want bool
	}{
		{"what is told", rows, right, true},
		{"another of the same area", rows, other, true},
		{"one place", grid(numbers(1)), window(1, box(0, 0, 1, 1)), true},
		{"a less one", rows, window(2, box(0, 0, 2, 1)), false},
		{"a less one, with the greatest area", rows, window(4, box(0, 0, 2, 1)), false},
		{"one place of several", rows, window(1, box(1, 3, 2, 4)), false},
		{"Area is one more", rows, window(5, box(0, 0, 2, 2)), false},
		{"Area is one less", rows, window(3, box(0, 0, 2, 2)), false},
		{"Area is 0", rows, window(0, box(0, 0, 2, 2)), false},
		{"Area is below 0", rows, window(-4, box(0, 0, 2, 2)), false},
		{"Area is the greatest number", rows, window(greatestInt, box(0, 0, 2, 2)), false},
		{"Area is the least number", rows, window(leastInt, box(0, 0, 2, 2)), false},
		{"a code", rows, coded(right, impl.ErrForm), false},
		{"another code", rows, coded(right, impl.ErrNone), false},
		{"no code at all", rows, coded(right, -1), false},
		{"the greatest code", rows, coded(right, greatestInt), false},
		{"a place is 0", rows, window(4, box(1, 0, 3, 2)), false},
		{"the first place is 0", rows, window(4, box(2, 0, 4, 2)), false},
		{"the last place is 0", grid(numbers(1, 1, 0), numbers(1, 0, 1)), window(4, box(0, 0, 2, 2)), false},
		{"all places are 0", grid(numbers(1, 0)), window(1, box(1, 0, 2, 1)), false},
		{"too great, with places of 0", rows, window(16, box(0, 0, 4, 4)), false},
		{"nothing", rows, impl.WindowResult{}, false},
		{"empty, no columns", rows, window(4, box(1, 0, 1, 4)), false},
		{"empty, no rows", rows, window(4, box(0, 2, 4, 2)), false},
		{"empty, of the area 0", rows, window(0, box(1, 1, 1, 2)), false},
		{"turned round across", rows, window(4, box(2, 0, 0, 2)), false},
		{"turned round upward", rows, window(4, box(0, 2, 2, 0)), false},
		{"turned round both ways", rows, window(4, box(2, 2, 0, 0)), false},
		{"turned round, of an area below 0", rows, window(-4, box(2, 0, 0, 2)), false},
		{"left of it in part", rows, window(4, box(-1, 0, 1, 2)), false},
		{"below it in part", rows, window(4, box(0, -1, 2, 1)), false},
		{"right of it in part", rows, window(4, box(3, 0, 5, 2)), false},
		{"above it in part", rows, window(4, box(3, 1, 4, 5)), false},
		{"left of it", rows, window(4, box(-2, 0, 0, 2)), false},
		{"below it", rows, window(4, box(0, -2, 2, 0)), false},
		{"right of it", rows, window(4, box(4, 0, 6, 2)), false},
		{"above it", rows, window(4, box(0, 4, 2, 6)), false},
		{"from the least to the greatest", rows, window(4, box(leastInt, leastInt, greatestInt, greatestInt)), false},
		{"from the greatest to the least", rows, window(4, box(greatestInt, greatestInt, leastInt, leastInt)), false},
		{"an area that comes round to 4", rows, window(4, box(0, 0, 1<<62+1, 4)), false},
		{"an area that comes round to 4, upward", rows, window(4, box(0, 0, 4, 1<<62+1)), false},
		{"a side that comes round to 4", rows, window(4, box(greatestInt, 0, leastInt+3, 1)), false},
		{"a side that comes round to 4, upward", rows, window(4, box(0, greatestInt, 1, leastInt+3)), false},
		{"no 1, nothing", filled(2, 2, 0), impl.WindowResult{}, false},
		{"no 1, one place", filled(2, 2, 0), window(1, box(0, 0, 1, 1)), false},
		{"no 1, what is told", filled(2, 2, 0), windowCode(impl.ErrNone), false},
		{"a number above 1", with(rows, 3, 3, 2), right, false},
		{"a number above 1 within", with(rows, 0, 0, 2), right, false},
		{"a number above 1 beside it", with(rows, 2, 3, 2), right, false},
		{"a number above MaxValue", with(rows, 2, 3, mostValue+1), right, false},
		{"-1", with(rows, 2, 3, -1), right, false},
		{"a row and a column of two: the row", grid(numbers(1, 1), numbers(1, 0)), window(2, box(0, 0, 2, 1)), true},
		{"a row and a column of two: the column", grid(numbers(1, 1), numbers(1, 0)), window(2, box(0, 0, 1, 2)), true},
		{"of another map", filled(2, 2, 1), window(4, box(3, 0, 4, 4)), false},
		{"no rows", nil, right, false},
		{"an empty row", grid(nil), impl.WindowResult{}, false},
		{"the greatest", filled(16, 16, 1), window(256, box(0, 0, 16, 16)), true},
		{"but a row", filled(16, 16, 1), window(240, box(0, 0, 16, 15)), false},
		{"but a column", filled(16, 16, 1), window(240, box(0, 0, 15, 16)), false},
		{"too high", filled(17, 16, 1), window(272, box(0, 0, 16, 17)), false},
		{"too wide", filled(16, 17, 1), window(272, box(0, 0, 17, 16)), false},
	} {
		checkWindowHolds(t, c.name, c.rows, c.w, c.want)
		if got := checkWindowWant(c.rows, c.w); got != c.want {
			t.Errorf("%s, plainly: %v", c.name, got)
		}
	}
}

func TestCheckWindowWithFaults(t *testing.T) {
	for _, c := range gridFaultCases() {
		for _, w := range []impl.WindowResult{{}, window(1, box(0, 0, 1, 1)), windowCode(c.code), window(2, box(0, 0, 2, 1)), window(17, box(0, 0, 17, 1))} {
			checkWindowHolds(t, c.name, c.rows, w, checkWindowWant(c.rows, w))
			if c.code != impl.OK && checkWindowWant(c.rows, w) {
				t.Errorf("%s, plainly: %v holds", c.name, w)
			}
		}
	}
}

// Every box in and around every map of two rows of three, with every area that might be.
func TestAllWindowsOfSmallMaps(t *testing.T) {
	var around []impl.Box
	for i := range 6 * 5 * 6 * 5 {
		around = append(around, box(int64(i%6-1), int64(i/6%5-1), int64(i/30%6-1), int64(i/180-1)))
	}
	held := 0
	for bits := range 1 << 6 {
		rows := bitMap(bits, 2, 3)
		list := goodWindows(rows)
		greatest := largestWant(rows).Area
		for _, b := range around {
			for area := int64(-1); area <= 7; area++ {
				w := window(area, b)
				want := area == greatest && slices.Contains(list, w)
				checkWindowHolds(t, "a small map", rows, w, want)
				held += int(bit(want))
			}
		}
	}
	if held < 64 {
		t.Errorf("%d windows hold", held)
	}
}

// Each bound of a window that holds, turned to each end, is told; so are its area and its code.
func TestTurnedWindows(t *testing.T) {
	chance := rand.New(rand.NewSource(106))
	for i := range 60 {
		rows := somePass(chance, 1+chance.Intn(6), 1+chance.Intn(6), 3+i%6)
		w := impl.LargestWindow(rows)
		for _, n := range append(windowEnds(), w.Area-1, w.Area+1) {
			turned := slices.Repeat([]impl.WindowResult{w}, 6)
			turned[0].Box.X0, turned[1].Box.Y0, turned[2].Box.X1, turned[3].Box.Y1, turned[4].Area, turned[5].Code = n, n, n, n, n, n
			for _, v := range turned {
				checkWindowHolds(t, "one number turned", rows, v, checkWindowWant(rows, v))
			}
		}
	}
}

// Every window of the greatest area holds, and no other.
func TestWindowsThatHold(t *testing.T) {
	chance := rand.New(rand.NewSource(107))
	for i := range 200 {
		rows := somePass(chance, 1+chance.Intn(6), 1+chance.Intn(6), 1+i%8)
		list := goodWindows(rows)
		for _, b := range allBoxes(rows) {
			w := window((b.X1-b.X0)*(b.Y1-b.Y0), b)
			greater := func(v impl.WindowResult) bool { return v.Area > w.Area }
			checkWindowHolds(t, "a box of it", rows, w, slices.Contains(list, w) && !slices.ContainsFunc(list, greater))
		}
	}
}
