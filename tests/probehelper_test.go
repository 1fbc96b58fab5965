package tests

import (
	"math/bits"
	"math/rand"
	"slices"
	"testing"

	"loop.example/g00057/impl"
)

// upward goes from cell 0 on; downward goes from the last cell.
func upward(ops ...int64) impl.Element {
	return impl.Element{Ops: ops}
}

func downward(ops ...int64) impl.Element {
	return impl.Element{Down: true, Ops: ops}
}

func marchOf(list ...impl.Element) []impl.Element {
	return list
}

// exampleMarch is the document's.
func exampleMarch() []impl.Element {
	return marchOf(upward(2), upward(0, 3), downward(1, 2, 0))
}

// fullMarch finds all: each cell is read behind every turn of any other one, of both values.
func fullMarch() []impl.Element {
	return marchOf(upward(2), upward(0, 3), upward(1, 2), downward(0, 3))
}

// blindMarch reads nothing, so it finds nothing.
func blindMarch() []impl.Element {
	return marchOf(upward(2, 3), downward(2), upward(3, 2, 3))
}

// longMarch has as much as may be; it is not wrong.
func longMarch() []impl.Element {
	var march []impl.Element
	for place := range 12 {
		march = append(march, impl.Element{Down: place%3 == 1, Ops: numbers(0, 3, 1, 2, 0, 3, 1, 2)})
	}
	return march
}

func copyMarch(march []impl.Element) []impl.Element {
	march = slices.Clone(march)
	for i, e := range march {
		march[i].Ops = slices.Clone(e.Ops)
	}
	return march
}

func sameMarch(a []impl.Element, b []impl.Element) bool {
	return slices.EqualFunc(a, b, func(e impl.Element, f impl.Element) bool { return e.Down == f.Down && slices.Equal(e.Ops, f.Ops) })
}

// cellFault is of one cell, cellsFault of two: of cell, as soon as by is turned.
func cellFault(kind int64, cell int64, value int64) impl.MemFault {
	return impl.MemFault{Kind: kind, Cell: cell, Value: value}
}

func cellsFault(kind int64, cell int64, by int64, value int64) impl.MemFault {
	return impl.MemFault{Kind: kind, Cell: cell, By: by, Value: value}
}

func failsAt(step int64, cell int64) impl.MarchResult {
	return impl.MarchResult{Fail: true, Step: step, Cell: cell}
}

func marchCode(code int64) impl.MarchResult {
	return impl.MarchResult{Code: code}
}

func covers(all int64, found int64, miss ...impl.MemFault) impl.CoverResult {
	return impl.CoverResult{All: all, Found: found, Miss: miss}
}

func coverCode(code int64) impl.CoverResult {
	return impl.CoverResult{Code: code}
}

func limit(low int64, high int64, bin int64) impl.Limit {
	return impl.Limit{Low: low, High: high, Bin: bin}
}

func limits(list ...impl.Limit) []impl.Limit {
	return list
}

func mapTold(rows ...[]int64) impl.MapResult {
	return impl.MapResult{Rows: rows}
}

func mapCode(code int64) impl.MapResult {
	return impl.MapResult{Code: code}
}

func sameCover(a impl.CoverResult, b impl.CoverResult) bool {
	return a.Code == b.Code && a.All == b.All && a.Found == b.Found && slices.Equal(a.Miss, b.Miss)
}

func sameMap(a impl.MapResult, b impl.MapResult) bool {
	return a.Code == b.Code && sameGrid(a.Rows, b.Rows)
}

func checkCover(t *testing.T, what string, got impl.CoverResult, want impl.CoverResult) {
	t.Helper()
	if !sameCover(got, want) {
		t.Errorf("%s: %s, want %s", what, brief(got), brief(want))
	}
}

func checkMap(t *testing.T, what string, got impl.MapResult, want impl.MapResult) {
	t.Helper()
	if !sameMap(got, want) {
		t.Errorf("%s: %s, want %s", what, brief(got), brief(want))
	}
}

// The following hold a call against the plain reckoning, too.
func checkMarched(t *testing.T, what string, march []impl.Element, cells int64, f impl.MemFault, want impl.MarchResult) {
	t.Helper()
	if got, plain := impl.RunMarch(march, cells, f), marchedWant(march, cells, f); got != want || plain != want {
		t.Errorf("%s: %v, want %v (by the plain reckoning %v) of %s, %d cells, %v", what, got, want, plain, brief(march), cells, f)
	}
}

func checkFaults(t *testing.T, what string, cells int64, want impl.CoverResult) {
	t.Helper()
	checkCover(t, what, impl.FaultsOf(cells), want)
	checkCover(t, what+", by the plain reckoning", faultsToldWant(cells), want)
}

func checkCoverage(t *testing.T, what string, march []impl.Element, cells int64, want impl.CoverResult) {
	t.Helper()
	checkCover(t, what, impl.CoverMarch(march, cells), want)
	checkCover(t, what+", by the plain reckoning", coveredWant(march, cells), want)
}

func checkBinned(t *testing.T, what string, measures []int64, list []impl.Limit, want impl.ShapeInt) {
	t.Helper()
	checkValue(t, what, impl.BinOf(measures, list), want)
	checkValue(t, what+", by the plain reckoning", binnedWant(measures, list), want)
}

func checkVerdict(t *testing.T, what string, bins []int64, want impl.ShapeInt) {
	t.Helper()
	checkValue(t, what, impl.Verdict(bins), want)
	checkValue(t, what+", by the plain reckoning", verdictWant(bins), want)
}

func checkStitched(t *testing.T, what string, a [][]int64, b [][]int64, want impl.MapResult) {
	t.Helper()
	checkMap(t, what, impl.StitchMaps(a, b), want)
	checkMap(t, what+", by the plain reckoning", stitchedWant(a, b), want)
}

func checkScanned(t *testing.T, what string, state []int64, taps []int64, in []int64, want impl.IntsResult) {
	t.Helper()
	checkInts(t, what, impl.ShiftScan(state, taps, in), want)
	checkInts(t, what+", by the plain reckoning", scannedWant(state, taps, in), want)
}

// checkSigned holds it against a scan of 16 zeros, too.
func checkSigned(t *testing.T, what string, in []int64, taps []int64, want impl.IntsResult) {
	t.Helper()
	checkInts(t, what, impl.SignatureOf(in, taps), want)
	checkScanned(t, what+", as a scan", make([]int64, 16), taps, in, want)
}

// checkMarchFault asks RunMarch and CoverMarch, too, with faults behind it that are told later.
func checkMarchFault(t *testing.T, what string, march []impl.Element, code int64) {
	t.Helper()
	if got, want := impl.MarchFault(march), marchFaultWant(march); got != code || want != code {
		t.Errorf("%s, %s: the fault is %d, want %d (by the plain reckoning %d)", what, brief(march), got, code, want)
	}
	checkMarched(t, what, march, 2, impl.MemFault{}, marchedWant(march, 2, impl.MemFault{}))
	checkCoverage(t, what, march, 2, coveredWant(march, 2))
	if code == impl.OK {
		return
	}
	for _, cells := range numbers(leastInt, 0, 1, 2, 12, 13, greatestInt) {
		for _, f := range []impl.MemFault{{}, cellFault(6, 0, 0), cellFault(1, 0, 1), cellFault(1, -1, 0)} {
			checkMarched(t, what, march, cells, f, marchCode(code))
		}
		checkCoverage(t, what, march, cells, coverCode(code))
	}
}

func marchFaultWant(march []impl.Element) int64 {
	var codes faults
	codes.wrong(impl.ErrForm, len(march) == 0)
	codes.wrong(impl.ErrMany, len(march) >= 13)
	for _, e := range march {
		codes.wrong(impl.ErrForm, len(e.Ops) == 0)
		codes.wrong(impl.ErrMany, len(e.Ops) >= 9)
		codes.wrong(impl.ErrForm, slices.ContainsFunc(e.Ops, func(op int64) bool { return !slices.Contains(numbers(0, 1, 2, 3), op) }))
	}
	return codes.first()
}

// faultsWant makes the faults kind by kind; there are none where there may not be so many cells.
func faultsWant(cells int64) []impl.MemFault {
	if cells < 1 || cells > 12 {
		return nil
	}
	var list []impl.MemFault
	for cell := range cells {
		list = append(list, cellFault(1, cell, 0), cellFault(1, cell, 1))
	}
	for _, kind := range numbers(2, 3) {
		for cell := range cells {
			list = append(list, cellFault(kind, cell, 0))
		}
	}
	for _, kind := range numbers(4, 5) {
		for pair := range cells * cells {
			if cell, by := pair/cells, pair%cells; cell != by {
				list = append(list, cellsFault(kind, cell, by, 0), cellsFault(kind, cell, by, 1))
			}
		}
	}
	return list
}

// marchStep is a read or a write.
type marchStep struct {
	cell int64
	op   int64
}

func stepsWant(march []impl.Element, cells int64) []marchStep {
	var steps []marchStep
	for _, e := range march {
		order := runOf(0, int(cells))
		if e.Down {
			slices.Reverse(order)
		}
		for _, cell := range order {
			for _, op := range e.Ops {
				steps = append(steps, marchStep{cell, op})
			}
		}
	}
	return steps
}

// behindWrite has all bits first as they were behind the write, if nothing were wrong, and then as the fault has it.
func behindWrite(was []int64, f impl.MemFault, cell int64, bit int64) []int64 {
	now := slices.Clone(was)
	now[cell] = bit
	turned := now[f.By] != was[f.By]
	switch {
	case f.Kind == 1:
		now[f.Cell] = f.Value
	case f.Kind == 2 && was[f.Cell] == 0:
		now[f.Cell] = 0
	case f.Kind == 3 && was[f.Cell] == 1:
		now[f.Cell] = 1
	case f.Kind == 4 && turned:
		now[f.Cell] = f.Value
	case f.Kind == 5 && turned && now[f.By] == f.Value:
		now[f.Cell] = 1 - now[f.Cell]
	}
	return now
}

// failWant goes step by step; all must be right.
func failWant(march []impl.Element, cells int64, f impl.MemFault) impl.MarchResult {
	now := make([]int64, cells)
	if f.Kind == 1 {
		now[f.Cell] = f.Value
	}
	for number, s := range stepsWant(march, cells) {
		if s.op >= 2 {
			now = behindWrite(now, f, s.cell, s.op-2)
		} else if now[s.cell] != s.op {
			return failsAt(int64(number), s.cell)
		}
	}
	return impl.MarchResult{}
}

func marchedWant(march []impl.Element, cells int64, f impl.MemFault) impl.MarchResult {
	var codes faults
	codes.found(marchFaultWant(march))
	codes.wrong(impl.ErrRange, cells <= 0, cells >= 13)
	codes.wrong(impl.ErrForm, f != impl.MemFault{} && !slices.Contains(faultsWant(cells), f))
	if len(codes) > 0 {
		return marchCode(codes.first())
	}
	return failWant(march, cells, f)
}

func faultsToldWant(cells int64) impl.CoverResult {
	list := faultsWant(cells)
	if len(list) == 0 {
		return coverCode(impl.ErrRange)
	}
	return covers(int64(len(list)), 0, list...)
}

func coveredWant(march []impl.Element, cells int64) impl.CoverResult {
	list := faultsWant(cells)
	var codes faults
	codes.found(marchFaultWant(march))
	codes.wrong(impl.ErrRange, len(list) == 0)
	if len(codes) > 0 {
		return coverCode(codes.first())
	}
	told := covers(int64(len(list)), 0)
	for _, f := range list {
		if failWant(march, cells, f).Fail {
			told.Found++
		} else {
			told.Miss = append(told.Miss, f)
		}
	}
	return told
}

// binnedWant looks from the last measure to the first one.
func binnedWant(measures []int64, list []impl.Limit) impl.ShapeInt {
	var codes faults
	codes.wrong(impl.ErrMany, len(measures) >= 41)
	codes.wrong(impl.ErrForm, len(measures) != len(list))
	for _, l := range list {
		codes.wrong(impl.ErrForm, l.Low > l.High, l.Bin <= 1, l.Bin >= 100)
	}
	if len(codes) > 0 {
		return valueCode(codes.first())
	}
	bin := int64(1)
	for i := len(list) - 1; i >= 0; i-- {
		if measures[i] < list[i].Low || measures[i] > list[i].High {
			bin = list[i].Bin
		}
	}
	return value(bin)
}

// verdictWant sorts all bins but 1 into runs, and takes the first of the longest ones.
func verdictWant(bins []int64) impl.ShapeInt {
	var codes faults
	codes.wrong(impl.ErrNone, len(bins) == 0)
	codes.wrong(impl.ErrMany, len(bins) >= 21)
	codes.wrong(impl.ErrRange, anyBeyond(bins, 1, 99))
	if len(codes) > 0 {
		return valueCode(codes.first())
	}
	others := slices.DeleteFunc(slices.Sorted(slices.Values(bins)), func(bin int64) bool { return bin == 1 })
	if good := len(bins) - len(others); good > len(others) {
		return value(1)
	}
	longest := 0
	best := int64(0)
	for len(others) > 0 {
		run := 1
		for run < len(others) && others[run] == others[0] {
			run++
		}
		if run > longest {
			longest, best = run, others[0]
		}
		others = others[run:]
	}
	return value(best)
}

func mapFaultWant(rows [][]int64) int64 {
	if len(rows) == 0 || len(rows[0]) == 0 {
		return impl.ErrForm
	}
	var lengths []int
	for _, row := range rows {
		lengths = append(lengths, len(row))
	}
	var codes faults
	codes.wrong(impl.ErrMany, len(rows) >= 21, slices.Max(lengths) >= 21)
	codes.wrong(impl.ErrForm, slices.Min(lengths) < slices.Max(lengths))
	codes.wrong(impl.ErrRange, anyBeyond(slices.Concat(rows...), 0, 99))
	return codes.first()
}

func stitchedWant(a [][]int64, b [][]int64) impl.MapResult {
	var codes faults
	codes.found(mapFaultWant(a))
	codes.found(mapFaultWant(b))
	if len(codes) > 0 {
		return mapCode(codes.first())
	}
	if len(a) != len(b) || len(a[0]) != len(b[0]) {
		return mapCode(impl.ErrForm)
	}
	rows := filled(len(a), len(a[0]), 0)
	for y := range rows {
		for x := range rows[y] {
			told := slices.Compact(slices.Sorted(slices.Values(numbers(0, a[y][x], b[y][x]))))
			if len(told) == 3 {
				return mapCode(impl.ErrTaken)
			}
			rows[y][x] = told[len(told)-1]
		}
	}
	return mapTold(rows...)
}

// scannedWant has the chain in the bits of one number, its first bit the least one.
func scannedWant(state []int64, taps []int64, in []int64) impl.IntsResult {
	var codes faults
	codes.wrong(impl.ErrForm, len(state) == 0)
	codes.wrong(impl.ErrMany, len(state) >= 33, len(in) >= 201)
	codes.wrong(impl.ErrRange, anyBeyond(slices.Concat(state, in), 0, 1), anyBeyond(taps, 0, int64(len(state)-1)))
	codes.wrong(impl.ErrMany, len(taps) >= 33)
	if len(codes) > 0 {
		return intsCode(codes.first())
	}
	chain, tapped := uint64(0), uint64(0)
	for place, b := range state {
		chain |= uint64(b) << place
	}
	for _, tap := range taps {
		tapped ^= 1 << tap
	}
	for _, b := range in {
		chain = chain<<1 | uint64((int(b)+bits.OnesCount64(chain&tapped))%2)
		chain &= 1<<len(state) - 1
	}
	var list []int64
	for place := range state {
		list = append(list, int64(chain>>place&1))
	}
	return ints(list...)
}

// probeEnds stand at and just beyond every bound that chapter 23 names, and at the ends of int64.
func probeEnds() []int64 {
	list := numbers(0, 1, 2, 3, 4, 5, 6, 7, 8, 9, 11, 12, 13, 15, 16, 17, 19, 20, 21, 31, 32, 33, 39, 40, 41, 98, 99, 100, 101, 199, 200, 201, 1<<32, wide, 1<<62, greatestInt-1, greatestInt)
	for _, n := range list {
		list = append(list, -n)
	}
	return append(list, leastInt)
}

// someMarch has reads that expect what was written last, but one in so many of them (none, if wrong is 0).
func someMarch(chance *rand.Rand, elements int, wrong int) []impl.Element {
	var march []impl.Element
	last := int64(0)
	for range elements {
		e := impl.Element{Down: chance.Intn(2) == 0}
		for range 1 + chance.Intn(1+chance.Intn(8)) {
			switch {
			case chance.Intn(2) == 0:
				last = chance.Int63n(2)
				e.Ops = append(e.Ops, 2+last)
			case wrong > 0 && chance.Intn(wrong) == 0:
				e.Ops = append(e.Ops, 1-last)
			default:
				e.Ops = append(e.Ops, last)
			}
		}
		march = append(march, e)
	}
	return march
}

func someMemFault(chance *rand.Rand, cells int64) impl.MemFault {
	list := append(faultsWant(cells), impl.MemFault{})
	return list[chance.Intn(len(list))]
}

// someLimits are right; as often as not a measure lies in them.
func someLimits(chance *rand.Rand, n int, most int64) ([]int64, []impl.Limit) {
	var measures []int64
	var list []impl.Limit
	for range n {
		low, wider := chance.Int63n(2*most+1)-most, chance.Int63n(most+1)
		measures = append(measures, low-1+chance.Int63n(wider+3)*bit(chance.Intn(8) > 0))
		list = append(list, limit(low, low+wider, 2+chance.Int63n(98)))
	}
	return measures, list
}

// someBins have 1 as often as some others together.
func someBins(chance *rand.Rand, n int) []int64 {
	most := numbers(2, 3, 5, 99)[chance.Intn(4)]
	var bins []int64
	for range n {
		bins = append(bins, 1+chance.Int63n(most)*chance.Int63n(2))
	}
	return bins
}

// someMaps are of one size, and unlike at so many places.
func someMaps(chance *rand.Rand, high int, wide int, unlike int) ([][]int64, [][]int64) {
	a := filled(high, wide, 0)
	b := copyGrid(a)
	for y := range a {
		for x := range a[y] {
			bin := 1 + chance.Int63n(99)
			a[y][x], b[y][x] = bin*chance.Int63n(2), bin*chance.Int63n(2)
		}
	}
	for range unlike {
		y, x := chance.Intn(high), chance.Intn(wide)
		a[y][x], b[y][x] = 1+chance.Int63n(99), 1+chance.Int63n(99)
	}
	return a, b
}

// someBelow are numbers from 0 to most less 1.
func someBelow(chance *rand.Rand, n int, most int64) []int64 {
	var list []int64
	for range n {
		list = append(list, chance.Int63n(most))
	}
	return list
}
