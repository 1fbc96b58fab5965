package tests

import (
	"math/rand"
	"slices"
	"testing"

	"loop.example/g00057/impl"
)

// binMapCases have the codes of one map; none of them is of another size than it has to be for that.
func binMapCases() []gridCase {
	return []gridCase{
		{"nil", nil, impl.ErrForm},
		{"no rows", [][]int64{}, impl.ErrForm},
		{"the first is nil", grid(nil), impl.ErrForm},
		{"the first is empty", grid(numbers()), impl.ErrForm},
		{"the first is empty, the second is not", grid(nil, numbers(1)), impl.ErrForm},
		{"all are empty, and too many", make([][]int64, 21), impl.ErrForm},
		{"the first is empty, the second too long", grid(nil, make([]int64, 21)), impl.ErrForm},
		{"the first is empty, the second is wrong", grid(nil, numbers(100)), impl.ErrForm},
		{"one place", grid(numbers(0)), impl.OK},
		{"the second is empty", grid(numbers(1), nil), impl.ErrForm},
		{"the second is longer", grid(numbers(1, 2), numbers(1, 2, 3)), impl.ErrForm},
		{"the second is shorter", grid(numbers(1, 2), numbers(1)), impl.ErrForm},
		{"the last is shorter", grid(numbers(1, 2), numbers(1, 2), numbers(3)), impl.ErrForm},
		{"19 rows", filled(19, 1, 7), impl.OK},
		{"MaxMap rows", filled(20, 1, 7), impl.OK},
		{"21 rows", filled(21, 1, 7), impl.ErrMany},
		{"rows of 19", filled(1, 19, 7), impl.OK},
		{"rows of MaxMap", filled(1, 20, 7), impl.OK},
		{"rows of 21", filled(1, 21, 7), impl.ErrMany},
		{"as high and wide as may be", filled(20, 20, 99), impl.OK},
		{"higher and wider", filled(21, 21, 7), impl.ErrMany},
		{"the second of 21", grid(numbers(1), make([]int64, 21)), impl.ErrMany},
		{"the last of 21", append(filled(19, 20, 7), make([]int64, 21)), impl.ErrMany},
		{"the first alone of 21", grid(make([]int64, 21), numbers(1)), impl.ErrMany},
		{"very many rows", append(filled(1, 1, 7), make([][]int64, 3000)...), impl.ErrMany},
		{"a very long row", filled(1, 3000, 7), impl.ErrMany},
		{"-1", grid(numbers(-1)), impl.ErrRange},
		{"99", grid(numbers(99)), impl.OK},
		{"100", grid(numbers(100)), impl.ErrRange},
		{"a number of the last row", grid(numbers(1, 2), numbers(1, -1)), impl.ErrRange},

		{"21 rows, the second shorter", append(grid(numbers(1, 2)), filled(20, 1, 7)...), impl.ErrMany},
		{"21 rows, the first wrong", append(grid(numbers(-1)), filled(20, 1, 7)...), impl.ErrMany},
		{"the second longer, the last too long", grid(numbers(1), numbers(1, 2), make([]int64, 21)), impl.ErrMany},
		{"the first wrong, the last too long", grid(numbers(-1), make([]int64, 21)), impl.ErrMany},
		{"too long, and wrong", filled(1, 21, -1), impl.ErrMany},
		{"in one row: longer, and wrong", grid(numbers(1), numbers(1, -1)), impl.ErrForm},
		{"the first wrong, the second longer", grid(numbers(-1), numbers(1, 2)), impl.ErrForm},
		{"the first wrong, the second empty", grid(numbers(100), nil), impl.ErrForm},
		{"the second wrong, the third shorter", grid(numbers(1, 2), numbers(1, -1), numbers(1)), impl.ErrForm},
	}
}

// sizedLike has a map without a fault that is as high and wide as another one, or, where that is none, of one place.
func sizedLike(rows [][]int64, n int64) [][]int64 {
	if mapFaultWant(rows) != impl.OK {
		return filled(1, 1, n)
	}
	return filled(len(rows), len(rows[0]), n)
}

func TestStitchMapsFaults(t *testing.T) {
	for _, c := range binMapCases() {
		whole := mapCode(c.code)
		if c.code == impl.OK {
			whole = mapTold(c.rows...)
		}
		checkStitched(t, c.name, c.rows, sizedLike(c.rows, 0), whole)
		checkStitched(t, c.name+", as b", sizedLike(c.rows, 0), c.rows, whole)
		checkStitched(t, c.name+", with itself", c.rows, c.rows, whole)
		for _, other := range binMapCases() {
			want := mapCode(c.code)
			if c.code == impl.OK {
				want = stitchedWant(c.rows, other.rows)
				if other.code != impl.OK {
					want = mapCode(other.code)
				}
			}
			checkStitched(t, c.name+", and then "+other.name, c.rows, other.rows, want)
		}
	}
}

func TestStitchMapsByHand(t *testing.T) {
	a := grid(numbers(1, 0, 3), numbers(0, 5, 0))
	for _, c := range []struct {
		name string
		a, b [][]int64
		want impl.MapResult
	}{
		{"each has its own", a, grid(numbers(0, 2, 0), numbers(4, 0, 6)), mapTold(numbers(1, 2, 3), numbers(4, 5, 6))},
		{"some are alike", a, grid(numbers(1, 2, 3), numbers(0, 0, 0)), mapTold(numbers(1, 2, 3), numbers(0, 5, 0))},
		{"nothing is tested in b", a, filled(2, 3, 0), mapTold(a...)},
		{"nothing is tested at all", filled(2, 3, 0), filled(2, 3, 0), mapTold(filled(2, 3, 0)...)},
		{"one is unlike", a, grid(numbers(2, 0, 0), numbers(0, 0, 0)), mapCode(impl.ErrTaken)},
		{"one is unlike, and less", a, grid(numbers(0, 0, 2), numbers(0, 0, 0)), mapCode(impl.ErrTaken)},
		{"the last is unlike", with(a, 2, 1, 98), grid(numbers(0, 0, 0), numbers(0, 0, 99)), mapCode(impl.ErrTaken)},
		{"all are unlike", filled(2, 3, 1), filled(2, 3, 2), mapCode(impl.ErrTaken)},
		{"one place", grid(numbers(0)), grid(numbers(99)), mapTold(numbers(99))},
		{"not as high", a, a[:1], mapCode(impl.ErrForm)},
		{"higher", a, append(copyGrid(a), numbers(0, 0, 0)), mapCode(impl.ErrForm)},
		{"not as wide", a, filled(2, 2, 0), mapCode(impl.ErrForm)},
		{"wider", a, filled(2, 4, 0), mapCode(impl.ErrForm)},
		{"turned", a, filled(3, 2, 0), mapCode(impl.ErrForm)},
		{"not as high, and unlike", a, filled(1, 3, 9), mapCode(impl.ErrForm)},
		{"not as wide, and unlike", a, filled(2, 1, 9), mapCode(impl.ErrForm)},
		{"not as high, and wrong", a, filled(1, 3, 100), mapCode(impl.ErrRange)},
		{"unlike, and wrong behind that", a, grid(numbers(9, 0, 0), numbers(0, 0, 100)), mapCode(impl.ErrRange)},
		{"both are wrong", filled(2, 3, -1), filled(2, 3, 100), mapCode(impl.ErrRange)},
		{"a is wrong, b is empty", filled(2, 3, -1), nil, mapCode(impl.ErrRange)},
		{"a is wrong, b too high", filled(2, 3, -1), filled(21, 1, 0), mapCode(impl.ErrRange)},
		{"a is too wide, b empty", filled(1, 21, 0), nil, mapCode(impl.ErrMany)},
		{"a is empty, b too wide", nil, filled(1, 21, 0), mapCode(impl.ErrForm)},
		{"a has no rows that are alike, b is too high", grid(numbers(1), nil), filled(21, 1, 0), mapCode(impl.ErrForm)},
	} {
		checkStitched(t, c.name, c.a, c.b, c.want)
	}
}

// A number at every end, wherever it stands, in either.
func TestStitchMapsAtEveryEnd(t *testing.T) {
	for _, size := range [][2]int{{1, 1}, {1, 3}, {3, 2}, {20, 20}} {
		bare := filled(size[0], size[1], 0)
		for _, n := range probeEnds() {
			for _, at := range [][2]int{{0, 0}, {size[1] - 1, size[0] - 1}, {size[1] / 2, 0}} {
				one := with(bare, at[0], at[1], n)
				want := mapTold(one...)
				if n < 0 || n > 99 {
					want = mapCode(impl.ErrRange)
				}
				checkStitched(t, "an end in a", one, bare, want)
				checkStitched(t, "an end in b", bare, one, want)
				checkStitched(t, "an end in both", one, one, want)
				if want.Code == impl.OK {
					full := filled(size[0], size[1], 50)
					want = mapTold(full...)
					if n != 0 && n != 50 {
						want = mapCode(impl.ErrTaken)
					}
					checkStitched(t, "an end in a, and 50", one, full, want)
					checkStitched(t, "an end in b, and 50", full, one, want)
				}
			}
		}
	}
}

// All pairs of maps of four places, each not tested, of bin 1 or of bin 2.
func TestStitchMapsOfAllSmall(t *testing.T) {
	small := func(number int) [][]int64 {
		return grid(numbers(int64(number%3), int64(number/3%3)), numbers(int64(number/9%3), int64(number/27)))
	}
	taken := 0
	for one := range 81 {
		for other := range 81 {
			a, b := small(one), small(other)
			got := impl.StitchMaps(a, b)
			checkStitched(t, "of four places", a, b, got)
			checkMap(t, "from the other side", impl.StitchMaps(b, a), got)
			taken += int(bit(got.Code == impl.ErrTaken))
		}
	}
	// At one place 7 of 9 pairs go together.
	if want := 81*81 - 7*7*7*7; taken != want {
		t.Errorf("%d pairs are unlike, want %d", taken, want)
	}
}

// Maps are stitched alike from either side, and in either order of three; one stitched with itself, or with what came of it, is as it was.
func TestSomeStitchedMaps(t *testing.T) {
	chance := rand.New(rand.NewSource(290))
	taken, whole := 0, 0
	for i := range 3000 {
		high, width := 1+chance.Intn(numbersOf(4, 20)[i%2]), 1+chance.Intn(numbersOf(4, 20)[i%2])
		a, b := someMaps(chance, high, width, numbersOf(0, 0, 1)[i%3])
		got := impl.StitchMaps(a, b)
		checkStitched(t, "some", a, b, got)
		checkStitched(t, "from the other side", b, a, got)
		checkStitched(t, "with itself", a, a, mapTold(a...))
		checkStitched(t, "with nothing", a, filled(high, width, 0), mapTold(a...))
		taken += int(bit(got.Code == impl.ErrTaken))
		if got.Code != impl.OK {
			continue
		}
		whole++
		checkStitched(t, "what came of it with a", got.Rows, a, got)
		checkStitched(t, "b with what came of it", b, got.Rows, got)
		c := copyGrid(got.Rows)
		for y := range c {
			for x := range c[y] {
				c[y][x] = max(c[y][x], 1) * chance.Int63n(2)
			}
		}
		checkMap(t, "three maps", impl.StitchMaps(got.Rows, c), impl.StitchMaps(a, impl.StitchMaps(b, c).Rows))
	}
	if taken < 300 || whole < 1000 {
		t.Errorf("%d are unlike, %d go together", taken, whole)
	}
}

// One place that is unlike is found wherever it stands.
func TestUnlikePlacesOfMaps(t *testing.T) {
	for _, size := range [][2]int{{1, 1}, {2, 3}, {20, 20}} {
		for y := range size[0] {
			for x := range size[1] {
				a, b := with(filled(size[0], size[1], 0), x, y, 4), with(filled(size[0], size[1], 6), x, y, 5)
				checkStitched(t, "one place", a, b, mapCode(impl.ErrTaken))
				checkStitched(t, "one place, from the other side", b, a, mapCode(impl.ErrTaken))
				b[y][x] = 4
				checkStitched(t, "alike there", a, b, mapTold(b...))
				if rows := impl.StitchMaps(a, b).Rows; !slices.EqualFunc(rows, b, slices.Equal[[]int64]) {
					t.Errorf("the rows are %v", rows)
				}
			}
		}
	}
}
