package tests

import (
	"math/rand"
	"slices"
	"testing"

	"loop.example/g00057/impl"
)

func shot(b impl.Box, dose int64) impl.Shot {
	return impl.Shot{Box: b, Dose: dose}
}

func shots(list ...impl.Shot) []impl.Shot {
	return list
}

// shotsOf has a shot of one dose for each box.
func shotsOf(list []impl.Box, dose int64) []impl.Shot {
	var out []impl.Shot
	for _, b := range list {
		out = append(out, shot(b, dose))
	}
	return out
}

func writer(frame impl.Box, own int64, share int64, reach int64) impl.Writer {
	return impl.Writer{Frame: frame, Own: own, Share: share, Reach: reach}
}

func doseRows(rows ...[]int64) impl.RowsResult {
	return impl.RowsResult{Rows: rows}
}

func rowsCode(code int64) impl.RowsResult {
	return impl.RowsResult{Code: code}
}

// faults are the codes of all that is wrong, in the order in which they were put in.
type faults []int64

// wrong puts the code in if one of these holds.
func (f *faults) wrong(code int64, holds ...bool) {
	if slices.Contains(holds, true) {
		*f = append(*f, code)
	}
}

// found puts in what another check answers.
func (f *faults) found(code int64) {
	f.wrong(code, code != impl.OK)
}

func (f faults) first() int64 {
	return append(f, impl.OK)[0]
}

// fillAsk has what FillArea is given.
type fillAsk struct {
	area               impl.Box
	keep               []impl.Box
	size, pitch, space int64
}

func (q fillAsk) call() impl.ShapeResult {
	return impl.FillArea(q.area, q.keep, q.size, q.pitch, q.space)
}

// fillStarts are the places where squares begin along a side; those behind the first 151 are left out.
func fillStarts(from int64, to int64, size int64, pitch int64) []int64 {
	var list []int64
	for n := from; to-n >= size && len(list) <= 150; n += pitch {
		list = append(list, n)
	}
	return list
}

// apartBy is how many cells a cell of the one is off from a cell of the other at least, on one axis.
func apartBy(from int64, to int64, otherFrom int64, otherTo int64) int64 {
	return max(0, otherFrom-(to-1), from-(otherTo-1))
}

func nearKeep(square impl.Box, keep []impl.Box, space int64) bool {
	return slices.ContainsFunc(keep, func(k impl.Box) bool {
		across := apartBy(square.X0, square.X1, k.X0, k.X1)
		upward := apartBy(square.Y0, square.Y1, k.Y0, k.Y1)
		return across <= space && upward <= space
	})
}

// fillWant holds distances against space, square by square.
func fillWant(q fillAsk) impl.ShapeResult {
	var codes faults
	codes.found(boxesFaultWant(boxes(q.area)))
	codes.found(shapeFaultWant(q.keep))
	codes.wrong(impl.ErrRange, q.size <= 0, q.size >= 1001, q.pitch <= 0, q.pitch >= 1001, q.pitch < q.size, q.space <= -1, q.space >= 1001)
	if code := codes.first(); code != impl.OK {
		return shapeCode(code)
	}
	xs := fillStarts(q.area.X0, q.area.X1, q.size, q.pitch)
	ys := fillStarts(q.area.Y0, q.area.Y1, q.size, q.pitch)
	if len(xs)*len(ys) > 150 {
		return shapeCode(impl.ErrMany)
	}
	var squares []impl.Box
	for _, x := range xs {
		for _, y := range ys {
			if square := box(x, y, x+q.size, y+q.size); !nearKeep(square, q.keep, q.space) {
				squares = append(squares, square)
			}
		}
	}
	return impl.ShapeResult{Boxes: formOfBoxes(squares)}
}

// cutsOf are the places where a side is cut, with both its ends; it stops where there are too many.
func cutsOf(from int64, to int64, most int64) []int64 {
	var list []int64
	for n := from; n < to && len(list) <= 151; n += most {
		list = append(list, n)
	}
	return append(list, to)
}

func fractureWant(s []impl.Box, most int64) impl.ShapeResult {
	var codes faults
	codes.found(shapeFaultWant(s))
	codes.wrong(impl.ErrRange, most <= 0, most >= 1001)
	if code := codes.first(); code != impl.OK {
		return shapeCode(code)
	}
	var pieces []impl.Box
	for _, b := range s {
		xs, ys := cutsOf(b.X0, b.X1, most), cutsOf(b.Y0, b.Y1, most)
		for j := 1; j < len(ys); j++ {
			for i := 1; i < len(xs); i++ {
				pieces = append(pieces, box(xs[i-1], ys[j-1], xs[i], ys[j]))
			}
		}
	}
	return shapeWant(pieces)
}

func shotsFaultWant(list []impl.Shot) int64 {
	var codes faults
	codes.wrong(impl.ErrMany, len(list) >= 41)
	for _, s := range list {
		codes.found(boxesFaultWant(boxes(s.Box)))
		codes.wrong(impl.ErrRange, s.Dose <= -1, s.Dose >= 1001)
	}
	return codes.first()
}

// checkShotsWant counts the shots at each strip that no box cuts.
func checkShotsWant(list []impl.Shot, s []impl.Box) int64 {
	var codes faults
	codes.found(shotsFaultWant(list))
	codes.found(shapeFaultWant(s))
	if code := codes.first(); code != impl.OK {
		return code
	}
	all := slices.Clone(s)
	for _, one := range list {
		all = append(all, one.Box)
	}
	xs, ys := placesOf(0, all)
	var taken, beyond, missing bool
	for _, x := range xs {
		for _, y := range ys {
			count := 0
			for _, one := range list {
				if cellsOf(boxes(one.Box))(x, y) {
					count++
				}
			}
			had := cellsOf(s)(x, y)
			taken = taken || count > 1
			beyond = beyond || count > 0 && !had
			missing = missing || count == 0 && had
		}
	}
	codes.wrong(impl.ErrTaken, taken)
	codes.wrong(impl.ErrRange, beyond)
	codes.wrong(impl.ErrNone, missing)
	return codes.first()
}

func frameFaultWant(frame impl.Box) int64 {
	var codes faults
	codes.found(boxesFaultWant(boxes(frame)))
	if len(codes) == 0 {
		codes.wrong(impl.ErrMany, frame.X1-frame.X0 >= 25, frame.Y1-frame.Y0 >= 25)
	}
	return codes.first()
}

// doseAt is the dose of one cell.
func doseAt(list []impl.Shot, x int64, y int64) int64 {
	sum := int64(0)
	for _, s := range list {
		if cellsOf(boxes(s.Box))(x, y) {
			sum += s.Dose
		}
	}
	return sum
}

// rowsOver asks for each cell of a frame by itself.
func rowsOver(frame impl.Box, at func(x int64, y int64) int64) impl.RowsResult {
	var rows [][]int64
	for y := frame.Y0; y < frame.Y1; y++ {
		var row []int64
		for x := frame.X0; x < frame.X1; x++ {
			row = append(row, at(x, y))
		}
		rows = append(rows, row)
	}
	return doseRows(rows...)
}

func doseMapWant(list []impl.Shot, frame impl.Box) impl.RowsResult {
	var codes faults
	codes.found(shotsFaultWant(list))
	codes.found(frameFaultWant(frame))
	if code := codes.first(); code != impl.OK {
		return rowsCode(code)
	}
	return rowsOver(frame, func(x int64, y int64) int64 { return doseAt(list, x, y) })
}

func writerFaultWant(w impl.Writer) int64 {
	var codes faults
	codes.found(frameFaultWant(w.Frame))
	codes.wrong(impl.ErrRange, w.Own <= -1, w.Own >= 1001, w.Share <= -1, w.Share >= 1001, w.Reach <= -1, w.Reach >= 5)
	return codes.first()
}

// spreadMapWant looks from each cell at all others.
func spreadMapWant(list []impl.Shot, w impl.Writer) impl.RowsResult {
	var codes faults
	codes.found(writerFaultWant(w))
	codes.found(shotsFaultWant(list))
	if code := codes.first(); code != impl.OK {
		return rowsCode(code)
	}
	doses := doseMapWant(list, w.Frame).Rows
	return rowsOver(w.Frame, func(x int64, y int64) int64 {
		sum := w.Own * doses[y-w.Frame.Y0][x-w.Frame.X0]
		for j, row := range doses {
			for i, dose := range row {
				across, upward := w.Frame.X0+int64(i)-x, w.Frame.Y0+int64(j)-y
				if max(across, -across) <= w.Reach && max(upward, -upward) <= w.Reach {
					sum += w.Share * dose
				}
			}
		}
		return sum
	})
}

func doseErrorWant(list []impl.Shot, w impl.Writer, want int64) impl.ShapeInt {
	spread := spreadMapWant(list, w)
	codes := faults{}
	codes.found(spread.Code)
	codes.wrong(impl.ErrRange, want <= -1, want >= 1000000001)
	if code := codes.first(); code != impl.OK {
		return impl.ShapeInt{Code: code}
	}
	sum := int64(0)
	for j, row := range spread.Rows {
		for i, n := range row {
			x, y := w.Frame.X0+int64(i), w.Frame.Y0+int64(j)
			had := slices.ContainsFunc(list, func(s impl.Shot) bool { return cellsOf(boxes(s.Box))(x, y) })
			switch {
			case had && n > want:
				sum += n - want
			case had:
				sum += want - n
			}
		}
	}
	return impl.ShapeInt{Value: sum}
}

// evenWant reckons each try anew.
func evenWant(list []impl.Shot, w impl.Writer, want int64, rounds int64) impl.DoseResult {
	present := doseErrorWant(list, w, want)
	codes := faults{}
	codes.found(present.Code)
	codes.wrong(impl.ErrRange, rounds <= -1, rounds >= 51)
	if code := codes.first(); code != impl.OK {
		return impl.DoseResult{Code: code}
	}
	out := impl.DoseResult{Shots: slices.Clone(list), Errors: numbers(present.Value)}
	for range rounds {
		taken := false
		for i := range out.Shots {
			old := out.Shots[i].Dose
			for _, dose := range numbers(old+1, old-1) {
				if dose < 0 || dose > 1000 {
					continue
				}
				out.Shots[i].Dose = dose
				if tried := doseErrorWant(out.Shots, w, want); tried.Value < out.Errors[len(out.Errors)-1] {
					out.Errors = append(out.Errors, tried.Value)
					taken = true
					break
				}
				out.Shots[i].Dose = old
			}
		}
		if !taken {
			break
		}
	}
	return out
}

func sameDoseRows(a impl.RowsResult, b impl.RowsResult) bool {
	return sameRows(impl.NetRows(a), impl.NetRows(b))
}

func sameDoses(a impl.DoseResult, b impl.DoseResult) bool {
	return a.Code == b.Code && slices.Equal(a.Shots, b.Shots) && slices.Equal(a.Errors, b.Errors)
}

func checkFill(t *testing.T, what string, q fillAsk, want impl.ShapeResult) {
	t.Helper()
	checkShape(t, what+", filled "+brief(q), q.call(), want)
}

func checkPieces(t *testing.T, what string, s []impl.Box, most int64, want impl.ShapeResult) {
	t.Helper()
	checkShape(t, what+", cut "+brief(s), impl.Fracture(s, most), want)
}

func checkRows(t *testing.T, what string, got impl.RowsResult, want impl.RowsResult) {
	t.Helper()
	if !sameDoseRows(got, want) {
		t.Errorf("%s: %s, want %s", what, brief(got), brief(want))
	}
}

func checkError(t *testing.T, what string, list []impl.Shot, w impl.Writer, want int64, value impl.ShapeInt) {
	t.Helper()
	if got := impl.DoseError(list, w, want); got != value {
		t.Errorf("the error of %s, %s, of %v with %d: %v, want %v", what, brief(list), w, want, got, value)
	}
}

func checkEven(t *testing.T, what string, got impl.DoseResult, want impl.DoseResult) {
	t.Helper()
	if !sameDoses(got, want) {
		t.Errorf("%s: %s, want %s", what, brief(got), brief(want))
	}
}

// someMaskShots lie in, across and outside of a frame around 0, some upon one another.
func someMaskShots(chance *rand.Rand, n int, dose int64) []impl.Shot {
	var list []impl.Shot
	for _, b := range someBoxes(chance.Int63(), n, 6) {
		list = append(list, shot(b, chance.Int63n(dose+1)))
	}
	return list
}

// someWriter has a small frame around 0.
func someWriter(chance *rand.Rand) impl.Writer {
	x, y := chance.Int63n(7)-6, chance.Int63n(7)-6
	frame := box(x, y, x+1+chance.Int63n(8), y+1+chance.Int63n(8))
	return writer(frame, chance.Int63n(6), chance.Int63n(4), chance.Int63n(5))
}

// doseEnds stand at and beyond the bounds of chapter 6.
func doseEnds() []int64 {
	return numbers(-1, 0, 1, 3, 4, 5, 24, 25, 40, 41, 50, 51, 999, 1000, 1001, 1000000000, 1000000001)
}
