package tests

import (
	"math"
	"slices"
	"testing"

	"loop.example/g00057/impl"
)

func checkLinesFault(t *testing.T, what string, list []impl.Line, length int64, want int64) {
	t.Helper()
	if got := impl.LinesFault(list, length); got != want {
		t.Errorf("%s, %s on %d cells: %d, want %d", what, brief(list), length, got, want)
	}
	if got := linesFaultWant(list, length); got != want {
		t.Errorf("%s, %s on %d cells, plainly: %d, want %d", what, brief(list), length, got, want)
	}
}

func TestLengthOfLines(t *testing.T) {
	for _, c := range []struct{ length, code int64 }{
		{0, impl.ErrForm}, {1, impl.OK}, {2, impl.OK}, {59, impl.OK}, {60, impl.OK}, {61, impl.ErrForm}, {-1, impl.ErrForm},
		{math.MinInt64, impl.ErrForm}, {math.MinInt64 + 1, impl.ErrForm}, {math.MaxInt64, impl.ErrForm}, {1 << 32, impl.ErrForm}, {1<<32 + 1, impl.ErrForm},
	} {
		checkLinesFault(t, "no lines", nil, c.length, c.code)
		checkLinesFault(t, "one line", linesAt(0, 1), c.length, c.code)
	}
}

func TestLinesFaultByHand(t *testing.T) {
	for _, c := range []struct {
		name   string
		list   []impl.Line
		length int64
		code   int64
	}{
		{"From at -1", linesAt(-1, 2), 8, impl.ErrRange},
		{"From at 0", linesAt(0, 2), 8, impl.OK},
		{"To at length", linesAt(6, 8), 8, impl.OK},
		{"To above length", linesAt(6, 9), 8, impl.ErrRange},
		{"To at the greatest length", linesAt(0, 60), 60, impl.OK},
		{"To above the greatest length", linesAt(0, 61), 60, impl.ErrRange},
		{"all cells", linesAt(0, 8), 8, impl.OK},
		{"From at To", linesAt(3, 3), 8, impl.ErrForm},
		{"From above To", linesAt(4, 3), 8, impl.ErrForm},
		{"From at To, at 0", linesAt(0, 0), 8, impl.ErrForm},
		{"From at To, at length", linesAt(8, 8), 8, impl.ErrForm},
		{"the last cell", linesAt(7, 8), 8, impl.OK},
		{"they touch", linesAt(0, 2, 2, 4), 8, impl.ErrForm},
		{"one cell between", linesAt(0, 2, 3, 4), 8, impl.OK},
		{"they overlap", linesAt(0, 3, 2, 5), 8, impl.ErrForm},
		{"they are one", linesAt(1, 3, 1, 3), 8, impl.ErrForm},
		{"one in the other", linesAt(0, 8, 2, 3), 8, impl.ErrForm},
		{"the wrong order", linesAt(4, 6, 0, 2), 8, impl.ErrForm},
		{"the third touches", linesAt(0, 1, 2, 3, 3, 4), 8, impl.ErrForm},
		{"the third is behind the first alone", linesAt(0, 1, 4, 6, 2, 3), 8, impl.ErrForm},
		{"the third is beyond", linesAt(0, 1, 4, 6, 7, 9), 8, impl.ErrRange},
		{"the least and the greatest", linesAt(math.MinInt64, math.MaxInt64), 60, impl.ErrRange},
		{"From is the greatest", linesAt(math.MaxInt64, 5), 60, impl.ErrForm},
		{"To is the least", linesAt(5, math.MinInt64), 60, impl.ErrForm},
		{"the zero value", make([]impl.Line, 1), 60, impl.ErrForm},
	} {
		checkLinesFault(t, c.name, c.list, c.length, c.code)
	}
}

func TestLinesFaultWithTwoFaults(t *testing.T) {
	for _, c := range []struct {
		name   string
		list   []impl.Line
		length int64
		code   int64
	}{
		{"in one line: below 0, and From above To", linesAt(-1, -2), 8, impl.ErrRange},
		{"in one line: beyond, and From above To", linesAt(10, 9), 8, impl.ErrRange},
		{"in one line: beyond, and it touches", linesAt(0, 2, 2, 9), 8, impl.ErrRange},
		{"in one line: below 0, and out of order", linesAt(0, 2, -1, 1), 8, impl.ErrRange},
		{"empty, then beyond", linesAt(3, 3, 5, 9), 8, impl.ErrForm},
		{"beyond, then empty", linesAt(0, 9, 3, 3), 8, impl.ErrRange},
		{"they touch, then below 0", linesAt(0, 2, 2, 3, -1, 5), 8, impl.ErrForm},
		{"below 0, then they touch", linesAt(-1, 2, 2, 3), 8, impl.ErrRange},
		{"length, and a line beyond", linesAt(-1, 2), 0, impl.ErrForm},
		{"length, and too many", teeth(13, 0), 61, impl.ErrForm},
		{"too many, and a line beyond", append(teeth(12, 0), line(50, 70)), 60, impl.ErrMany},
		{"too many, and the first is empty", append(linesAt(0, 0), teeth(12, 2)...), 60, impl.ErrMany},
		{"too many, and none is right", make([]impl.Line, 13), 60, impl.ErrMany},
	} {
		checkLinesFault(t, c.name, c.list, c.length, c.code)
	}
}

func TestManyLines(t *testing.T) {
	checkLinesFault(t, "no lines", nil, 60, impl.OK)
	checkLinesFault(t, "an empty list", []impl.Line{}, 60, impl.OK)
	checkLinesFault(t, "eleven", teeth(11, 0), 60, impl.OK)
	checkLinesFault(t, "twelve", teeth(12, 0), 60, impl.OK)
	checkLinesFault(t, "twelve, as short as can be", teeth(12, 0), 23, impl.OK)
	checkLinesFault(t, "twelve, a cell too short", teeth(12, 0), 22, impl.ErrRange)
	checkLinesFault(t, "thirteen", teeth(13, 0), 60, impl.ErrMany)
	checkLinesFault(t, "very many", teeth(3000, 0), 60, impl.ErrMany)
	for at := range 12 {
		list := teeth(12, 3)
		list[at].From--
		want := int64(impl.ErrForm)
		if at == 0 {
			want = impl.OK
		}
		checkLinesFault(t, "one begins where that ahead ends", list, 60, want)
	}
}

// Every list of two lines whose ends are near the cells.
func TestLinesFaultOfAllPairs(t *testing.T) {
	met := map[int64]int{}
	places := placesFrom(-1, 5)
	for length := int64(-1); length <= 4; length++ {
		for _, a := range places {
			for _, b := range places {
				for _, c := range places {
					for _, d := range places {
						list := linesAt(a, b, c, d)
						got, want := impl.LinesFault(list, length), linesFaultWant(list, length)
						if got != want {
							t.Fatalf("%v on %d cells: %d, want %d", list, length, got, want)
						}
						met[got]++
					}
				}
			}
		}
	}
	if met[impl.OK] == 0 || met[impl.ErrForm] == 0 || met[impl.ErrRange] == 0 {
		t.Errorf("the codes are %v", met)
	}
}

// What is without a fault has just the cells of one set, each set in one way.
func TestLinesAreSetsOfCells(t *testing.T) {
	const length = 4
	told := map[int]int{}
	for a := range int64(length + 1) {
		for b := range int64(length + 1) {
			for c := range int64(length + 1) {
				for d := range int64(length + 1) {
					for n := 0; n <= 4; n += 2 {
						list := linesAt(numbers(a, b, c, d)[:n]...)
						if n == 0 && a+b+c+d > 0 || n == 2 && c+d > 0 || impl.LinesFault(list, length) != impl.OK {
							continue
						}
						bits := 0
						for x := range int64(length) {
							if underLine(list, x) {
								bits |= 1 << x
							}
						}
						told[bits]++
					}
				}
			}
		}
	}
	for bits := range 1 << length {
		if told[bits] != 1 {
			t.Errorf("the cells %b are told in %d ways", bits, told[bits])
		}
	}
}

func checkKernelFault(t *testing.T, what string, k impl.Kernel, want int64) {
	t.Helper()
	if got := impl.KernelFault(k); got != want {
		t.Errorf("%s, %s: %d, want %d", what, brief(k), got, want)
	}
	if got := kernelFaultWant(k); got != want {
		t.Errorf("%s, %s, plainly: %d, want %d", what, brief(k), got, want)
	}
}

func TestKernelFaultByHand(t *testing.T) {
	for _, c := range []struct {
		name string
		k    impl.Kernel
		code int64
	}{
		{"no weights", kernel(1), impl.ErrForm},
		{"an empty list", impl.Kernel{Weights: []int64{}, Level: 1}, impl.ErrForm},
		{"one weight", kernel(1, 5), impl.OK},
		{"eight weights", kernel(1, make([]int64, 8)...), impl.OK},
		{"nine weights", kernel(1, make([]int64, 9)...), impl.ErrMany},
		{"very many weights", kernel(1, make([]int64, 3000)...), impl.ErrMany},
		{"a weight of -1", kernel(1, -1), impl.ErrRange},
		{"a weight of 0", kernel(1, 0), impl.OK},
		{"a weight of 1000", kernel(1, 1000), impl.OK},
		{"a weight of 1001", kernel(1, 1001), impl.ErrRange},
		{"the least weight", kernel(1, math.MinInt64), impl.ErrRange},
		{"the greatest weight", kernel(1, math.MaxInt64), impl.ErrRange},
		{"the level 0", kernel(0, 1), impl.ErrRange},
		{"the level 1", kernel(1, 1), impl.OK},
		{"the level -1", kernel(-1, 1), impl.ErrRange},
		{"the level 100000", kernel(100000, 1), impl.OK},
		{"the level 100001", kernel(100001, 1), impl.ErrRange},
		{"the least level", kernel(math.MinInt64, 1), impl.ErrRange},
		{"the greatest level", kernel(math.MaxInt64, 1), impl.ErrRange},
		{"no weights, the level 0", kernel(0), impl.ErrForm},
		{"no weights, too high a level", kernel(100001), impl.ErrForm},
		{"nine weights, one of 1001", kernel(1, slices.Repeat(numbers(1001), 9)...), impl.ErrMany},
		{"nine weights, the level 0", kernel(0, make([]int64, 9)...), impl.ErrMany},
		{"a weight of -1, the level 0", kernel(0, -1), impl.ErrRange},
		{"the zero value", impl.Kernel{}, impl.ErrForm},
	} {
		checkKernelFault(t, c.name, c.k, c.code)
	}
}

// A wrong weight is found wherever it stands.
func TestKernelFaultAtEachPlace(t *testing.T) {
	for _, weight := range correctEnds() {
		want := int64(impl.ErrRange)
		if weight >= 0 && weight <= 1000 {
			want = impl.OK
		}
		for n := 1; n <= 8; n++ {
			for at := range n {
				k := kernel(100000, slices.Repeat(numbers(1000), n)...)
				k.Weights[at] = weight
				checkKernelFault(t, "one weight", k, want)
			}
		}
	}
	for _, level := range correctEnds() {
		want := int64(impl.ErrRange)
		if level >= 1 && level <= 100000 {
			want = impl.OK
		}
		checkKernelFault(t, "the level", kernel(level, 0, 1000), want)
	}
}
