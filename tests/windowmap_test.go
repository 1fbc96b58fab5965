package tests

import (
	"math/rand"
	"testing"

	"loop.example/g00057/impl"
)

func TestPassMapByHand(t *testing.T) {
	sizes := grid(numbers(8, 9, 10, 11), numbers(12, 13, 0, mostValue))
	for _, c := range []struct {
		name      string
		low, high int64
		want      impl.PairRows
	}{
		{"some", 9, 12, passRows(4, numbers(0, 1, 1, 1), numbers(1, 0, 0, 0))},
		{"low is one less", 8, 12, passRows(5, numbers(1, 1, 1, 1), numbers(1, 0, 0, 0))},
		{"low is one more", 10, 12, passRows(3, numbers(0, 0, 1, 1), numbers(1, 0, 0, 0))},
		{"high is one less", 9, 11, passRows(3, numbers(0, 1, 1, 1), numbers(0, 0, 0, 0))},
		{"high is one more", 9, 13, passRows(5, numbers(0, 1, 1, 1), numbers(1, 1, 0, 0))},
		{"low at high", 10, 10, passRows(1, numbers(0, 0, 1, 0), numbers(0, 0, 0, 0))},
		{"low at high, of no size", 5, 5, passRows(0, numbers(0, 0, 0, 0), numbers(0, 0, 0, 0))},
		{"low above high", 11, 10, passCode(impl.ErrRange)},
		{"all", 0, mostValue, passRows(8, numbers(1, 1, 1, 1), numbers(1, 1, 1, 1))},
		{"but the greatest", 0, mostValue - 1, passRows(7, numbers(1, 1, 1, 1), numbers(1, 1, 1, 0))},
		{"but the least", 1, mostValue, passRows(7, numbers(1, 1, 1, 1), numbers(1, 1, 0, 1))},
		{"0 alone", 0, 0, passRows(1, numbers(0, 0, 0, 0), numbers(0, 0, 1, 0))},
		{"below 0", -7, -1, passRows(0, numbers(0, 0, 0, 0), numbers(0, 0, 0, 0))},
		{"beyond all", mostValue + 1, mostValue + 9, passRows(0, numbers(0, 0, 0, 0), numbers(0, 0, 0, 0))},
		{"from the least to the greatest", leastInt, greatestInt, passRows(8, numbers(1, 1, 1, 1), numbers(1, 1, 1, 1))},
		{"from the greatest to the least", greatestInt, leastInt, passCode(impl.ErrRange)},
		{"the least twice", leastInt, leastInt, passRows(0, numbers(0, 0, 0, 0), numbers(0, 0, 0, 0))},
		{"the greatest twice", greatestInt, greatestInt, passRows(0, numbers(0, 0, 0, 0), numbers(0, 0, 0, 0))},
		{"from the least to 9", leastInt, 9, passRows(3, numbers(1, 1, 0, 0), numbers(0, 0, 1, 0))},
		{"from 12 to the greatest", 12, greatestInt, passRows(3, numbers(0, 0, 0, 0), numbers(1, 1, 0, 1))},
		{"one above the least, the least", leastInt + 1, leastInt, passCode(impl.ErrRange)},
		{"the greatest, one below it", greatestInt, greatestInt - 1, passCode(impl.ErrRange)},
	} {
		checkPass(t, c.name, impl.PassMap(sizes, c.low, c.high), c.want)
		checkPass(t, c.name+", plainly", passMapWant(sizes, c.low, c.high), c.want)
	}
}

// gridFaultCases have each fault of a grid, numbers that are too great among them.
func gridFaultCases() []gridCase {
	return append(gridCases(),
		gridCase{"MaxValue", grid(numbers(mostValue)), impl.OK},
		gridCase{"above MaxValue", grid(numbers(mostValue + 1)), impl.ErrRange},
		gridCase{"above MaxValue, then longer", grid(numbers(mostValue+1), numbers(1, 2)), impl.ErrRange},
		gridCase{"longer, and above MaxValue", grid(numbers(1), numbers(mostValue+1, 2)), impl.ErrForm})
}

// The fault of a grid is told ahead of low above high.
func TestPassMapFaults(t *testing.T) {
	for _, c := range gridFaultCases() {
		for _, limits := range [][2]int64{{0, 7}, {7, 7}, {8, 7}, {leastInt, greatestInt}, {greatestInt, leastInt}} {
			want := passCode(c.code)
			switch {
			case c.code != impl.OK:
			case limits[0] > limits[1]:
				want = passCode(impl.ErrRange)
			default:
				want = passMapWant(c.rows, limits[0], limits[1])
			}
			checkPass(t, c.name, impl.PassMap(c.rows, limits[0], limits[1]), want)
			checkPass(t, c.name+", plainly", passMapWant(c.rows, limits[0], limits[1]), want)
		}
	}
}

// Each size at, and one beside, each limit.
func TestPassMapAtEachLimit(t *testing.T) {
	ends := append(windowEnds(), 499, 500, 501)
	for _, low := range ends {
		for _, high := range ends {
			at := clampedTo(low, 0, mostValue)
			to := clampedTo(high, 0, mostValue)
			sizes := grid(numbers(at, max(0, at-1), min(mostValue, at+1)), numbers(to, max(0, to-1), min(mostValue, to+1)))
			checkPass(t, "six sizes", impl.PassMap(sizes, low, high), passMapWant(sizes, low, high))
		}
	}
}

// Every place is asked by itself, and counts once.
func TestPassMapAtEachPlace(t *testing.T) {
	for _, size := range someSizes() {
		for y := range size[0] {
			for x := range size[1] {
				one := with(filled(size[0], size[1], 0), x, y, 1)
				checkPass(t, "one is good", impl.PassMap(with(filled(size[0], size[1], 4), x, y, 5), 5, 9), passRows(1, one...))
				none := with(filled(size[0], size[1], 1), x, y, 0)
				checkPass(t, "one is not", impl.PassMap(with(filled(size[0], size[1], 5), x, y, 4), 5, 9), passRows(int64(size[0]*size[1]-1), none...))
			}
		}
	}
}

// What one range and the next one pass is what both together do.
func TestSomePassMaps(t *testing.T) {
	chance := rand.New(rand.NewSource(101))
	for i := range 600 {
		size := someSizes()[i%len(someSizes())]
		sizes := someGrid(chance, size[0], size[1], numbers(1, 20, mostValue)[i%3])
		low, between, high := int64(1), 1+chance.Int63n(9), 10+chance.Int63n(9)
		first, second, both := impl.PassMap(sizes, low, between), impl.PassMap(sizes, between+1, high), impl.PassMap(sizes, low, high)
		checkPass(t, "some", both, passMapWant(sizes, low, high))
		if first.Pass+second.Pass != both.Pass {
			t.Errorf("%v: %d and %d pass, but %d together", sizes, first.Pass, second.Pass, both.Pass)
		}
		checkPass(t, "in none of both", impl.BothPass(first.Rows, second.Rows), passRows(0, filled(size[0], size[1], 0)...))
		checkPass(t, "in the wider", impl.BothPass(first.Rows, both.Rows), first)
	}
}

func TestBothPassByHand(t *testing.T) {
	a, b := grid(numbers(0, 0, 1), numbers(1, 1, 0)), grid(numbers(0, 1, 0), numbers(1, 1, 1))
	for _, c := range []struct {
		name string
		a, b [][]int64
		want impl.PairRows
	}{
		{"some", a, b, passRows(2, numbers(0, 0, 0), numbers(1, 1, 0))},
		{"the other way round", b, a, passRows(2, numbers(0, 0, 0), numbers(1, 1, 0))},
		{"with itself", a, a, passRows(3, numbers(0, 0, 1), numbers(1, 1, 0))},
		{"with all", a, filled(2, 3, 1), passRows(3, numbers(0, 0, 1), numbers(1, 1, 0))},
		{"with none", a, filled(2, 3, 0), passRows(0, numbers(0, 0, 0), numbers(0, 0, 0))},
		{"one place", grid(numbers(1)), grid(numbers(1)), passRows(1, numbers(1))},
		{"one place, not in b", grid(numbers(1)), grid(numbers(0)), passRows(0, numbers(0))},
		{"one place, not in a", grid(numbers(0)), grid(numbers(1)), passRows(0, numbers(0))},
		{"as high and wide as can be", filled(16, 16, 1), filled(16, 16, 1), passRows(256, filled(16, 16, 1)...)},
		{"a is higher", a, b[:1], passCode(impl.ErrForm)},
		{"b is higher", a[:1], b, passCode(impl.ErrForm)},
		{"a is wider", a, filled(2, 2, 1), passCode(impl.ErrForm)},
		{"b is wider", filled(2, 2, 1), b, passCode(impl.ErrForm)},
		{"as many places", filled(2, 3, 1), filled(3, 2, 1), passCode(impl.ErrForm)},
		{"a row and a column", filled(1, 4, 1), filled(4, 1, 1), passCode(impl.ErrForm)},
		{"2 in a", with(a, 0, 0, 2), b, passCode(impl.ErrForm)},
		{"2 in b", a, with(b, 2, 1, 2), passCode(impl.ErrForm)},
		{"2 in both", with(a, 2, 1, 2), with(b, 2, 1, 2), passCode(impl.ErrForm)},
		{"2 in a, where b has 0", with(a, 0, 0, 2), with(b, 0, 0, 0), passCode(impl.ErrForm)},
		{"2 in b, where a has 0", with(a, 0, 0, 0), with(b, 0, 0, 2), passCode(impl.ErrForm)},
		{"MaxValue in a", with(a, 1, 1, mostValue), b, passCode(impl.ErrForm)},
		{"MaxValue in b", a, with(b, 1, 1, mostValue), passCode(impl.ErrForm)},
		{"above MaxValue in a", with(a, 1, 1, mostValue+1), b, passCode(impl.ErrRange)},
		{"above MaxValue in b", a, with(b, 1, 1, mostValue+1), passCode(impl.ErrRange)},
		{"-1 in a", with(a, 1, 1, -1), b, passCode(impl.ErrRange)},
		{"-1 in b", a, with(b, 1, 1, -1), passCode(impl.ErrRange)},
		{"none", nil, nil, passCode(impl.ErrForm)},
		{"no b", a, nil, passCode(impl.ErrForm)},
		{"no a", nil, b, passCode(impl.ErrForm)},

		{"2 in a, b is too high", with(a, 0, 0, 2), filled(17, 3, 1), passCode(impl.ErrMany)},
		{"2 in a, -1 in b", with(a, 0, 0, 2), with(b, 2, 1, -1), passCode(impl.ErrRange)},
		{"-1 in a, 2 in b", with(a, 0, 0, -1), with(b, 2, 1, 2), passCode(impl.ErrRange)},
		{"-1 in a, b is too wide", with(a, 0, 0, -1), filled(2, 17, 1), passCode(impl.ErrRange)},
		{"a is too wide, -1 in b", filled(2, 17, 1), with(b, 0, 0, -1), passCode(impl.ErrMany)},
		{"a is empty, b is too wide", grid(nil), filled(2, 17, 1), passCode(impl.ErrForm)},
		{"a is too wide, b is empty", filled(2, 17, 1), grid(nil), passCode(impl.ErrMany)},
		{"other heights, -1 in b", a[:1], with(b, 0, 0, -1), passCode(impl.ErrRange)},
		{"other widths, b is too high", filled(17, 2, 1), b, passCode(impl.ErrMany)},
		{"other widths, 2 in a and -1 in b", filled(2, 2, 2), with(b, 0, 0, -1), passCode(impl.ErrRange)},
		{"other heights, 2 in b", a[:1], with(b, 0, 0, 2), passCode(impl.ErrForm)},
		{"2 and -1 in a", with(with(a, 0, 0, 2), 2, 1, -1), b, passCode(impl.ErrRange)},
		{"2 and -1 in b", a, with(with(b, 0, 0, 2), 2, 1, -1), passCode(impl.ErrRange)},
	} {
		checkPass(t, c.name, impl.BothPass(c.a, c.b), c.want)
		checkPass(t, c.name+", plainly", bothPassWant(c.a, c.b), c.want)
	}
}

// Each fault in a, in b, and in both: that of a is told.
func TestBothPassFaults(t *testing.T) {
	good := filled(2, 2, 1)
	for _, c := range gridFaultCases() {
		checkPass(t, c.name+", as a", impl.BothPass(c.rows, good), bothPassWant(c.rows, good))
		checkPass(t, c.name+", as b", impl.BothPass(good, c.rows), bothPassWant(good, c.rows))
		if c.code == impl.OK {
			continue
		}
		for _, d := range gridFaultCases() {
			checkPass(t, c.name+" as a, "+d.name+" as b", impl.BothPass(c.rows, d.rows), passCode(c.code))
		}
		checkPass(t, c.name+", as b, with a number above 1 in a", impl.BothPass(filled(1, 1, 2), c.rows), passCode(c.code))
	}
}

// A number above 1 is found wherever it stands, and so is one that is beyond a grid's.
func TestBothPassAtEachPlace(t *testing.T) {
	for _, size := range someSizes() {
		all := filled(size[0], size[1], 1)
		for y := range size[0] {
			for x := range size[1] {
				for _, n := range windowEnds() {
					turned := with(all, x, y, n)
					checkPass(t, "in a", impl.BothPass(turned, all), bothPassWant(turned, all))
					checkPass(t, "in b", impl.BothPass(all, turned), bothPassWant(all, turned))
				}
			}
		}
	}
}

// Every pair of maps of two by two, and every pair of sizes up to three.
func TestBothPassOfAllSmall(t *testing.T) {
	for i := range 16 {
		for j := range 16 {
			a, b := bitMap(i, 2, 2), bitMap(j, 2, 2)
			checkPass(t, "four places", impl.BothPass(a, b), countedPass(impl.RowsResult{Rows: bitMap(i&j, 2, 2)}))
		}
	}
	for i := range 9 {
		for j := range 9 {
			a, b := filled(1+i/3, 1+i%3, 1), filled(1+j/3, 1+j%3, 1)
			want := passCode(impl.ErrForm)
			if i == j {
				want = passRows(int64((1+i/3)*(1+i%3)), a...)
			}
			checkPass(t, "two sizes", impl.BothPass(a, b), want)
		}
	}
}
