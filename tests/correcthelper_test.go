package tests

import (
	"math"
	"math/rand"
	"slices"
	"testing"

	"loop.example/g00057/impl"
)

func line(from int64, to int64) impl.Line {
	return impl.Line{From: from, To: to}
}

// linesAt has a line for each two ends.
func linesAt(ends ...int64) []impl.Line {
	var list []impl.Line
	for i := 1; i < len(ends); i += 2 {
		list = append(list, line(ends[i-1], ends[i]))
	}
	return list
}

// teeth are n lines of one cell, with one cell between two of them.
func teeth(n int, from int64) []impl.Line {
	var list []impl.Line
	for i := range int64(n) {
		list = append(list, line(from+2*i, from+2*i+1))
	}
	return list
}

func kernel(level int64, weights ...int64) impl.Kernel {
	return impl.Kernel{Weights: weights, Level: level}
}

func linesCode(code int64) impl.LinesResult {
	return impl.LinesResult{Code: code}
}

func linesTold(ends ...int64) impl.LinesResult {
	return impl.LinesResult{Lines: linesAt(ends...)}
}

func intsCode(code int64) impl.IntsResult {
	return impl.IntsResult{Code: code}
}

func value(n int64) impl.ShapeInt {
	return impl.ShapeInt{Value: n}
}

func valueCode(code int64) impl.ShapeInt {
	return impl.ShapeInt{Code: code}
}

func bentCode(code int64) impl.CorrectResult {
	return impl.CorrectResult{Code: code}
}

// bentTo is the answer with these lines and errors.
func bentTo(list []impl.Line, errors ...int64) impl.CorrectResult {
	return impl.CorrectResult{Lines: list, Errors: errors}
}

func linesFaultWant(list []impl.Line, length int64) int64 {
	var codes faults
	codes.wrong(impl.ErrForm, length <= 0, length >= 61)
	codes.wrong(impl.ErrMany, len(list) >= 13)
	for i, l := range list {
		codes.wrong(impl.ErrRange, l.From <= -1, l.To > length)
		codes.wrong(impl.ErrForm, l.From >= l.To, i > 0 && l.From <= list[max(0, i-1)].To)
	}
	return codes.first()
}

func kernelFaultWant(k impl.Kernel) int64 {
	var codes faults
	codes.wrong(impl.ErrForm, len(k.Weights) == 0)
	codes.wrong(impl.ErrMany, len(k.Weights) >= 9)
	for _, w := range k.Weights {
		codes.wrong(impl.ErrRange, w <= -1, w >= 1001)
	}
	codes.wrong(impl.ErrRange, k.Level <= 0, k.Level >= 100001)
	return codes.first()
}

func underLine(list []impl.Line, x int64) bool {
	return slices.ContainsFunc(list, func(l impl.Line) bool { return l.From <= x && x < l.To })
}

// runsOf has the lines of the cells that are in.
func runsOf(length int64, in func(x int64) bool) []impl.Line {
	var list []impl.Line
	for x := range length {
		switch {
		case in(x) && x > 0 && in(x-1):
			list[len(list)-1].To = x + 1
		case in(x):
			list = append(list, line(x, x+1))
		}
	}
	return list
}

// bitLines has the lines of the cells whose bits are set.
func bitLines(bits int, length int64) []impl.Line {
	return runsOf(length, func(x int64) bool { return bits>>x&1 == 1 })
}

// intensityAt looks from one cell at all that there may be.
func intensityAt(list []impl.Line, k impl.Kernel, x int64) int64 {
	sum := int64(0)
	for y := range int64(60) {
		if off := int(max(x-y, y-x)); underLine(list, y) && off <= len(k.Weights)-1 {
			sum += k.Weights[off]
		}
	}
	return sum
}

func printFaultWant(list []impl.Line, length int64, k impl.Kernel) int64 {
	var codes faults
	codes.found(linesFaultWant(list, length))
	codes.found(kernelFaultWant(k))
	return codes.first()
}

func intensityWant(list []impl.Line, length int64, k impl.Kernel) impl.IntsResult {
	if code := printFaultWant(list, length, k); code != impl.OK {
		return intsCode(code)
	}
	var out impl.IntsResult
	for x := range length {
		out.List = append(out.List, intensityAt(list, k, x))
	}
	return out
}

func printWant(list []impl.Line, length int64, k impl.Kernel) impl.LinesResult {
	if code := printFaultWant(list, length, k); code != impl.OK {
		return linesCode(code)
	}
	printed := runsOf(length, func(x int64) bool { return intensityAt(list, k, x) >= k.Level })
	if len(printed) >= 13 {
		return linesCode(impl.ErrMany)
	}
	return impl.LinesResult{Lines: printed}
}

func printErrorWant(target []impl.Line, list []impl.Line, length int64, k impl.Kernel) impl.ShapeInt {
	var codes faults
	codes.found(linesFaultWant(target, length))
	codes.found(printFaultWant(list, length, k))
	if code := codes.first(); code != impl.OK {
		return valueCode(code)
	}
	out := impl.ShapeInt{}
	for x := range length {
		wanted, bright := underLine(target, x), intensityAt(list, k, x) >= k.Level
		if wanted && !bright || bright && !wanted {
			out.Value++
		}
	}
	return out
}

// roomBefore are the cells between a line and the one ahead of it.
func roomBefore(list []impl.Line, at int) []int64 {
	var room []int64
	for x := list[at-1].To; x < list[at].From; x++ {
		room = append(room, x)
	}
	return room
}

// assistWant marks the cells of the lines that are added, and tells the runs of all.
func assistWant(list []impl.Line, length int64, gap int64, width int64) impl.LinesResult {
	var codes faults
	codes.found(linesFaultWant(list, length))
	codes.wrong(impl.ErrRange, gap <= 0, gap >= 61, width <= 0, width >= 61)
	if code := codes.first(); code != impl.OK {
		return linesCode(code)
	}
	var added []int64
	for i := 1; i < len(list); i++ {
		room := roomBefore(list, i)
		if n := int64(len(room)); n >= gap && n-2 >= width {
			begin := int64(math.Floor(float64(n-width) / 2))
			added = append(added, room[begin:begin+width]...)
		}
	}
	all := runsOf(length, func(x int64) bool { return underLine(list, x) || slices.Contains(added, x) })
	if len(all) >= 13 {
		return linesCode(impl.ErrMany)
	}
	return impl.LinesResult{Lines: all}
}

// movedEnd are the lines with one end, counted From ahead of To, elsewhere.
func movedEnd(list []impl.Line, end int, step int64) []impl.Line {
	out := slices.Clone(list)
	if end%2 == 0 {
		out[end/2].From += step
	} else {
		out[end/2].To += step
	}
	return out
}

// betterEnd tells whether lines with that end moved are without a fault, and have a lesser error.
func betterEnd(target []impl.Line, list []impl.Line, length int64, k impl.Kernel, end int, step int64) bool {
	moved := printErrorWant(target, movedEnd(list, end, step), length, k)
	return moved.Code == impl.OK && moved.Value < printErrorWant(target, list, length, k).Value
}

// bendWant reckons each try anew.
func bendWant(target []impl.Line, length int64, k impl.Kernel, rounds int64) impl.CorrectResult {
	first := printErrorWant(target, target, length, k)
	codes := faults{}
	codes.found(first.Code)
	codes.wrong(impl.ErrRange, rounds <= -1, rounds >= 31)
	if code := codes.first(); code != impl.OK {
		return bentCode(code)
	}
	out := bentTo(slices.Clone(target), first.Value)
	for range rounds {
		steps := len(out.Errors)
		for end := range 2 * len(target) {
			for _, step := range numbers(-1, 1) {
				if betterEnd(target, out.Lines, length, k, end, step) {
					out.Lines = movedEnd(out.Lines, end, step)
					out.Errors = append(out.Errors, printErrorWant(target, out.Lines, length, k).Value)
					break
				}
			}
		}
		if len(out.Errors) == steps {
			break
		}
	}
	return out
}

func checkBendWant(target []impl.Line, length int64, k impl.Kernel, r impl.CorrectResult) bool {
	first, last := printErrorWant(target, target, length, k), printErrorWant(target, r.Lines, length, k)
	if r.Code != 0 || last.Code != 0 || len(r.Errors) < 1 {
		return false
	}
	falling := slices.Clone(r.Errors)
	slices.Sort(falling)
	slices.Reverse(falling)
	falls := slices.Equal(falling, r.Errors) && len(slices.Compact(falling)) == len(r.Errors)
	return falls && r.Errors[0] == first.Value && r.Errors[len(r.Errors)-1] == last.Value
}

func sameLines(a impl.LinesResult, b impl.LinesResult) bool {
	return a.Code == b.Code && slices.Equal(a.Lines, b.Lines)
}

func sameBent(a impl.CorrectResult, b impl.CorrectResult) bool {
	return a.Code == b.Code && slices.Equal(a.Lines, b.Lines) && slices.Equal(a.Errors, b.Errors)
}

func checkLines(t *testing.T, what string, got impl.LinesResult, want impl.LinesResult) {
	t.Helper()
	if !sameLines(got, want) {
		t.Errorf("%s: %s, want %s", what, brief(got), brief(want))
	}
}

func checkBent(t *testing.T, what string, got impl.CorrectResult, want impl.CorrectResult) {
	t.Helper()
	if !sameBent(got, want) {
		t.Errorf("%s: %s, want %s", what, brief(got), brief(want))
	}
}

func checkValue(t *testing.T, what string, got impl.ShapeInt, want impl.ShapeInt) {
	t.Helper()
	if got != want {
		t.Errorf("%s: %v, want %v", what, got, want)
	}
}

// someLines have no fault on so many cells; most is how many there are at most.
func someLines(chance *rand.Rand, length int64, most int) []impl.Line {
	var list []impl.Line
	long := 1 + chance.Int63n(6)
	for at := chance.Int63n(4); at < length && len(list) < most; at += 1 + chance.Int63n(long) {
		to := min(length, at+1+chance.Int63n(long))
		list = append(list, line(at, to))
		at = to
	}
	return list
}

// someKernel has weights that fall, some that rise, and some of 0.
func someKernel(chance *rand.Rand) impl.Kernel {
	k := impl.Kernel{}
	sum := int64(0)
	for i := range 1 + chance.Intn(8) {
		weight := chance.Int63n(9)
		if chance.Intn(3) > 0 {
			weight = max(0, 9-2*int64(i))
		}
		k.Weights = append(k.Weights, weight)
		sum += weight
	}
	k.Level = 1 + chance.Int63n(sum+2)
	return k
}

// smallKernels differ in where they print: at a line, beside it, and in what it takes to print.
func smallKernels() []impl.Kernel {
	list := []impl.Kernel{kernel(1, 1), kernel(2, 1), kernel(1, 0), kernel(1, 0, 1), kernel(1, 0, 0, 1), kernel(2, 0, 0, 1), kernel(1, 0, 0, 0, 0, 1), kernel(3, 0, 0, 5, 5)}
	for level := range int64(8) {
		list = append(list, kernel(1+level, 4, 2, 1), kernel(1+level, 1, 1, 2), kernel(1+level, 0, 1, 2), kernel(1+level, 2, 1, 0, 1, 2))
	}
	return append(list, kernel(8, 1, 1, 1, 1, 1, 1, 1, 1), kernel(1, 0, 0, 0, 0, 0, 0, 0, 1))
}

// correctEnds stand at and beyond the bounds of chapter 8, and at the ends of int64.
func correctEnds() []int64 {
	list := numbers(0, 1, 2, 8, 9, 12, 13, 29, 30, 31, 32, 59, 60, 61, 62, 999, 1000, 1001, 99999, 100000, 100001, math.MaxInt64-1, math.MaxInt64)
	for _, n := range list {
		list = append(list, -n)
	}
	return append(list, math.MinInt64)
}
