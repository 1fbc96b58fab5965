package tests

import (
	"math/rand"
	"slices"
	"testing"

	"loop.example/g00057/impl"
)

func TestIntensityByHand(t *testing.T) {
	full := kernel(1, 1, 2, 3, 4, 5, 6, 7, 8)
	for _, c := range []struct {
		name   string
		list   []impl.Line
		length int64
		k      impl.Kernel
		want   impl.IntsResult
	}{
		{"the document's", linesAt(2, 5), 8, kernel(7, 4, 2, 1), ints(1, 3, 7, 8, 7, 3, 1, 0)},
		{"no lines", nil, 4, kernel(1, 4, 2, 1), ints(0, 0, 0, 0)},
		{"one cell", linesAt(0, 1), 1, kernel(1, 4, 2, 1), ints(4)},
		{"one cell, no lines", nil, 1, kernel(1, 4), ints(0)},
		{"all cells", linesAt(0, 5), 5, kernel(1, 4, 2, 1), ints(7, 9, 10, 9, 7)},
		{"one weight", linesAt(1, 3), 5, kernel(1, 6), ints(0, 6, 6, 0, 0)},
		{"one weight, all cells", linesAt(0, 3), 3, kernel(1, 6), ints(6, 6, 6)},
		{"eight weights, from the first cell", linesAt(0, 1), 10, full, ints(1, 2, 3, 4, 5, 6, 7, 8, 0, 0)},
		{"eight weights, from the last cell", linesAt(9, 10), 10, full, ints(0, 0, 8, 7, 6, 5, 4, 3, 2, 1)},
		{"more weights than cells", linesAt(1, 2), 3, full, ints(2, 1, 2)},
		{"more weights than cells, all of them", linesAt(0, 3), 3, full, ints(6, 5, 6)},
		{"more weights than there is one cell", linesAt(0, 1), 1, full, ints(1)},
		{"a weight of 0 first", linesAt(2, 3), 5, kernel(1, 0, 7), ints(0, 7, 0, 7, 0)},
		{"a weight of 0 between", linesAt(2, 3), 5, kernel(1, 3, 0, 1), ints(1, 0, 3, 0, 1)},
		{"all weights 0", linesAt(0, 5), 5, kernel(1, 0, 0, 0), ints(0, 0, 0, 0, 0)},
		{"two lines", linesAt(0, 1, 3, 4), 5, kernel(1, 4, 2, 1), ints(4, 3, 3, 4, 2)},
		{"three lines, one cell between", linesAt(0, 1, 2, 3, 4, 5), 5, kernel(1, 1, 1), ints(1, 2, 1, 2, 1)},
		{"the level is not asked", linesAt(1, 2), 3, kernel(100000, 1), ints(0, 1, 0)},
		{"the greatest weights", linesAt(0, 3), 3, kernel(1, 1000, 1000, 1000), ints(3000, 3000, 3000)},
	} {
		checkInts(t, c.name, impl.IntensityOf(c.list, c.length, c.k), c.want)
		checkInts(t, c.name+", plainly", intensityWant(c.list, c.length, c.k), c.want)
	}
}

// printFaults are asks for which IntensityOf and PrintOf have a code, the same.
func printFaults() []printCase {
	right := kernel(1, 1)
	return []printCase{
		{"length 0", nil, 0, right, impl.ErrForm},
		{"length 61", nil, 61, right, impl.ErrForm},
		{"thirteen lines", teeth(13, 0), 60, right, impl.ErrMany},
		{"a line beyond", linesAt(0, 9), 8, right, impl.ErrRange},
		{"a line below 0", linesAt(-1, 3), 8, right, impl.ErrRange},
		{"an empty line", linesAt(3, 3), 8, right, impl.ErrForm},
		{"lines that touch", linesAt(0, 3, 3, 4), 8, right, impl.ErrForm},
		{"no weights", linesAt(0, 3), 8, kernel(1), impl.ErrForm},
		{"no weights, no lines", nil, 8, kernel(1), impl.ErrForm},
		{"nine weights", linesAt(0, 3), 8, kernel(1, make([]int64, 9)...), impl.ErrMany},
		{"a weight of 1001", linesAt(0, 3), 8, kernel(1, 1001), impl.ErrRange},
		{"a weight of -1", linesAt(0, 3), 8, kernel(1, 1, -1), impl.ErrRange},
		{"the level 0", linesAt(0, 3), 8, kernel(0, 1), impl.ErrRange},
		{"the level 100001", linesAt(0, 3), 8, kernel(100001, 1), impl.ErrRange},
		{"length, and no weights", nil, 61, kernel(1), impl.ErrForm},
		{"length, and nine weights", nil, 0, kernel(1, make([]int64, 9)...), impl.ErrForm},
		{"length, and the level", linesAt(0, 1), -1, kernel(0, 1), impl.ErrForm},
		{"thirteen lines, and no weights", teeth(13, 0), 60, kernel(1), impl.ErrMany},
		{"thirteen lines, and a weight", teeth(13, 0), 60, kernel(1, 1001), impl.ErrMany},
		{"a line beyond, and no weights", linesAt(0, 9), 8, kernel(1), impl.ErrRange},
		{"a line beyond, and nine weights", linesAt(0, 9), 8, kernel(1, make([]int64, 9)...), impl.ErrRange},
		{"lines that touch, and nine weights", linesAt(0, 3, 3, 4), 8, kernel(1, make([]int64, 9)...), impl.ErrForm},
		{"lines that touch, and the level", linesAt(0, 3, 3, 4), 8, kernel(0, 1), impl.ErrForm},
	}
}

type printCase struct {
	name   string
	list   []impl.Line
	length int64
	k      impl.Kernel
	code   int64
}

func TestPrintFaults(t *testing.T) {
	for _, c := range printFaults() {
		checkInts(t, c.name, impl.IntensityOf(c.list, c.length, c.k), intsCode(c.code))
		checkInts(t, c.name+", plainly", intensityWant(c.list, c.length, c.k), intsCode(c.code))
		checkLines(t, c.name, impl.PrintOf(c.list, c.length, c.k), linesCode(c.code))
		checkLines(t, c.name+", plainly", printWant(c.list, c.length, c.k), linesCode(c.code))
	}
}

func TestPrintByHand(t *testing.T) {
	// Each line of these prints the cell on either side of it; the first one has none on its left.
	sides := kernel(1, 0, 1)
	apart := []impl.Line{}
	for i := range int64(12) {
		apart = append(apart, line(4*i, 4*i+1))
	}
	moved := []impl.Line{}
	for _, l := range apart[:7] {
		moved = append(moved, line(l.From+1, l.To+1))
	}
	for _, c := range []struct {
		name   string
		list   []impl.Line
		length int64
		k      impl.Kernel
		want   impl.LinesResult
	}{
		{"no lines", nil, 5, kernel(1, 1), linesTold()},
		{"nothing prints", linesAt(0, 5), 5, kernel(11, 4, 2, 1), linesTold()},
		{"nothing but the middle", linesAt(0, 5), 5, kernel(10, 4, 2, 1), linesTold(2, 3)},
		{"weights of 0", linesAt(0, 5), 5, kernel(1, 0, 0), linesTold()},
		{"all cells print", linesAt(0, 5), 5, kernel(7, 4, 2, 1), linesTold(0, 5)},
		{"all but the ends", linesAt(0, 5), 5, kernel(8, 4, 2, 1), linesTold(1, 4)},
		{"all cells of a line in the middle", linesAt(2, 3), 5, kernel(1, 4, 2, 1), linesTold(0, 5)},
		{"one cell", linesAt(0, 1), 1, kernel(1, 1), linesTold(0, 1)},
		{"at the level", linesAt(2, 5), 8, kernel(7, 4, 2, 1), linesTold(2, 5)},
		{"one below the level", linesAt(2, 5), 8, kernel(8, 4, 2, 1), linesTold(3, 4)},
		{"one above the level", linesAt(2, 5), 8, kernel(6, 4, 2, 1), linesTold(2, 5)},
		{"wider, at the level", linesAt(2, 5), 8, kernel(3, 4, 2, 1), linesTold(1, 6)},
		{"wider, one below it", linesAt(2, 5), 8, kernel(4, 4, 2, 1), linesTold(2, 5)},
		{"two lines", linesAt(0, 2, 4, 6), 8, kernel(1, 1), linesTold(0, 2, 4, 6)},
		{"they grow together", linesAt(0, 2, 3, 6), 8, kernel(2, 2, 1), linesTold(0, 6)},
		{"they do not", linesAt(0, 2, 4, 6), 8, kernel(2, 2, 1), linesTold(0, 2, 4, 6)},
		{"they grow together over two cells", linesAt(0, 2, 4, 6), 8, kernel(1, 1, 1), linesTold(0, 7)},
		{"only the gap prints", linesAt(0, 1, 2, 3), 3, kernel(2, 0, 1), linesTold(1, 2)},
		{"on either side", linesAt(2, 3), 5, sides, linesTold(1, 2, 3, 4)},
		{"at both ends", linesAt(1, 2), 3, sides, linesTold(0, 1, 2, 3)},
		{"the greatest length", linesAt(59, 60), 60, kernel(1, 1), linesTold(59, 60)},
		{"twelve", teeth(12, 0), 60, kernel(1, 1), impl.LinesResult{Lines: teeth(12, 0)}},
		{"twelve of six", moved[:6], 60, sides, impl.LinesResult{Lines: teeth(12, 0)}},
		{"thirteen of seven", apart[:7], 60, sides, linesCode(impl.ErrMany)},
		{"fourteen of seven", moved, 60, sides, linesCode(impl.ErrMany)},
		{"twelve of seven, the last cut off", apart[:7], 25, sides, linesTold(1, 2, 3, 4, 5, 6, 7, 8, 9, 10, 11, 12, 13, 14, 15, 16, 17, 18, 19, 20, 21, 22, 23, 24)},
		{"thirteen of seven, the last cell", apart[:7], 26, sides, linesCode(impl.ErrMany)},
		{"very many of twelve", apart, 60, sides, linesCode(impl.ErrMany)},
	} {
		checkLines(t, c.name, impl.PrintOf(c.list, c.length, c.k), c.want)
		checkLines(t, c.name+", plainly", printWant(c.list, c.length, c.k), c.want)
	}
}

// What prints is told without a fault, and has just the cells that are bright enough.
func TestWhatPrintsIsBrightEnough(t *testing.T) {
	chance := rand.New(rand.NewSource(81))
	many := 0
	for range 3000 {
		length := 1 + chance.Int63n(60)
		list, k := someLines(chance, length, 12), someKernel(chance)
		bright, printed := impl.IntensityOf(list, length, k), impl.PrintOf(list, length, k)
		if printed.Code == impl.ErrMany {
			many++
			checkLines(t, brief(list), printed, printWant(list, length, k))
			continue
		}
		if printed.Code != impl.OK || impl.LinesFault(printed.Lines, length) != impl.OK || int64(len(bright.List)) != length {
			t.Fatalf("%s on %d cells with %v prints %s", brief(list), length, k, brief(printed))
		}
		for x, n := range bright.List {
			if underLine(printed.Lines, int64(x)) != (n >= k.Level) {
				t.Fatalf("%s on %d cells with %v prints %s, and %d has %d", brief(list), length, k, brief(printed), x, n)
			}
		}
	}
	if many == 0 {
		t.Error("never too many lines")
	}
}

func TestPrintErrorByHand(t *testing.T) {
	spread := kernel(3, 4, 2, 1)
	for _, c := range []struct {
		name         string
		target, list []impl.Line
		length       int64
		k            impl.Kernel
		want         int64
	}{
		{"no target, no lines", nil, nil, 6, spread, 0},
		{"no target", nil, linesAt(2, 3), 6, kernel(1, 1), 1},
		{"no target, and more prints", nil, linesAt(2, 5), 8, spread, 5},
		{"no lines", linesAt(0, 2, 4, 5), nil, 6, kernel(1, 1), 3},
		{"what is wanted", linesAt(1, 4), linesAt(1, 4), 6, kernel(1, 1), 0},
		{"too wide", linesAt(2, 5), linesAt(2, 5), 8, spread, 2},
		{"too narrow", linesAt(2, 5), linesAt(2, 5), 8, kernel(8, 4, 2, 1), 2},
		{"nothing prints", linesAt(2, 5), linesAt(2, 5), 8, kernel(9, 4, 2, 1), 3},
		{"elsewhere", linesAt(0, 2), linesAt(4, 6), 6, kernel(1, 1), 4},
		{"one cell off", linesAt(0, 2), linesAt(1, 3), 6, kernel(1, 1), 2},
		{"all wrong", linesAt(0, 1, 2, 3), linesAt(1, 2), 3, kernel(1, 1), 3},
		{"all cells, nothing", linesAt(0, 60), nil, 60, kernel(1, 1), 60},
		{"nothing, all cells", nil, linesAt(0, 60), 60, kernel(1, 1), 60},
		{"one cell", linesAt(0, 1), linesAt(0, 1), 1, kernel(2, 1), 1},
		{"more lines print than there may be", nil, moreLines(), 60, kernel(1, 0, 1), 13},
	} {
		checkValue(t, c.name, impl.PrintError(c.target, c.list, c.length, c.k), value(c.want))
		checkValue(t, c.name+", plainly", printErrorWant(c.target, c.list, c.length, c.k), value(c.want))
	}
}

// moreLines are seven, of which thirteen print where each prints what is beside it.
func moreLines() []impl.Line {
	var list []impl.Line
	for i := range int64(7) {
		list = append(list, line(4*i, 4*i+1))
	}
	return list
}

func TestPrintErrorFaults(t *testing.T) {
	right, fit := linesAt(0, 1), kernel(1, 1)
	beyond, touching, many := linesAt(0, 9), linesAt(0, 3, 3, 4), teeth(13, 0)
	none, nine, low := kernel(1), kernel(1, make([]int64, 9)...), kernel(0, 1)
	for _, c := range []struct {
		name         string
		target, list []impl.Line
		length       int64
		k            impl.Kernel
		code         int64
	}{
		{"length 0", right, right, 0, fit, impl.ErrForm},
		{"length 61", right, right, 61, fit, impl.ErrForm},
		{"a target beyond", beyond, right, 8, fit, impl.ErrRange},
		{"a target that touches", touching, right, 8, fit, impl.ErrForm},
		{"too many targets", many, right, 60, fit, impl.ErrMany},
		{"a line beyond", right, beyond, 8, fit, impl.ErrRange},
		{"lines that touch", right, touching, 8, fit, impl.ErrForm},
		{"too many lines", right, many, 60, fit, impl.ErrMany},
		{"no weights", right, right, 8, none, impl.ErrForm},
		{"nine weights", right, right, 8, nine, impl.ErrMany},
		{"the level 0", right, right, 8, low, impl.ErrRange},
		{"no target, a line beyond", nil, beyond, 8, fit, impl.ErrRange},
		{"a target beyond, no lines", beyond, nil, 8, fit, impl.ErrRange},
		{"neither, and no weights", nil, nil, 8, none, impl.ErrForm},
		{"a target, a line", beyond, touching, 8, fit, impl.ErrRange},
		{"a target that touches, a line beyond", touching, beyond, 8, fit, impl.ErrForm},
		{"too many targets, a line", many, beyond, 60, fit, impl.ErrMany},
		{"a target, too many lines", touching, many, 60, fit, impl.ErrForm},
		{"a target, no weights", beyond, right, 8, none, impl.ErrRange},
		{"a target, nine weights", touching, right, 8, nine, impl.ErrForm},
		{"a line, no weights", right, beyond, 8, none, impl.ErrRange},
		{"a line, nine weights", right, touching, 8, nine, impl.ErrForm},
		{"length, nine weights", right, right, 0, nine, impl.ErrForm},
		{"all", beyond, touching, 8, nine, impl.ErrRange},
	} {
		checkValue(t, c.name, impl.PrintError(c.target, c.list, c.length, c.k), valueCode(c.code))
		checkValue(t, c.name+", plainly", printErrorWant(c.target, c.list, c.length, c.k), valueCode(c.code))
	}
}

// All sets of cells of a short length, with kernels of many kinds.
func TestPrintsOfAllShortLines(t *testing.T) {
	for length := int64(1); length <= 7; length++ {
		for bits := range 1 << length {
			list := bitLines(bits, length)
			for i, k := range smallKernels() {
				target := bitLines((bits*5+i*3)%(1<<length), length)
				checkInts(t, brief(list), impl.IntensityOf(list, length, k), intensityWant(list, length, k))
				checkLines(t, brief(list), impl.PrintOf(list, length, k), printWant(list, length, k))
				checkValue(t, brief(list), impl.PrintError(target, list, length, k), printErrorWant(target, list, length, k))
			}
		}
	}
}

func TestPrintsOfLongLines(t *testing.T) {
	chance := rand.New(rand.NewSource(82))
	for range 1500 {
		length := 1 + chance.Int63n(60)
		target, list, k := someLines(chance, length, 12), someLines(chance, length, 12), someKernel(chance)
		if chance.Intn(4) == 0 {
			k.Weights = slices.Repeat(numbers(1000), 8)
			k.Level = 1000 * (1 + chance.Int63n(16))
		}
		checkInts(t, brief(list), impl.IntensityOf(list, length, k), intensityWant(list, length, k))
		checkLines(t, brief(list), impl.PrintOf(list, length, k), printWant(list, length, k))
		checkValue(t, brief(list), impl.PrintError(target, list, length, k), printErrorWant(target, list, length, k))
	}
}

// Light adds up: what two lists of lines give together is what each gives by itself.
func TestIntensitiesAddUp(t *testing.T) {
	chance := rand.New(rand.NewSource(83))
	for range 800 {
		length := 1 + chance.Int63n(60)
		list, k := someLines(chance, length, 12), someKernel(chance)
		cut := chance.Intn(len(list) + 1)
		one, other, all := impl.IntensityOf(list[:cut], length, k), impl.IntensityOf(list[cut:], length, k), impl.IntensityOf(list, length, k)
		for x, n := range all.List {
			if n != one.List[x]+other.List[x] {
				t.Fatalf("%s with %v: cell %d has %d, want %d and %d", brief(list), k, x, n, one.List[x], other.List[x])
			}
		}
	}
}

// An error is how many cells what prints and the target differ in, and none where the target is what prints.
func TestPrintErrorOfWhatPrints(t *testing.T) {
	chance := rand.New(rand.NewSource(84))
	for range 800 {
		length := 1 + chance.Int63n(60)
		list, k := someLines(chance, length, 12), someKernel(chance)
		printed := impl.PrintOf(list, length, k)
		if printed.Code != impl.OK {
			continue
		}
		checkValue(t, "what prints is wanted", impl.PrintError(printed.Lines, list, length, k), value(0))
		cells := int64(0)
		for _, l := range printed.Lines {
			cells += l.To - l.From
		}
		checkValue(t, "nothing is wanted", impl.PrintError(nil, list, length, k), value(cells))
		checkValue(t, "all is wanted", impl.PrintError(linesAt(0, length), list, length, k), value(length-cells))
	}
}
