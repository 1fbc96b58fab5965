package tests

import (
	"math/rand"
	"slices"
	"testing"

	"loop.example/g00057/impl"
)

// overlayAsk has what the calls of chapter 11 are given; each takes what it needs.
type overlayAsk struct {
	list  []impl.Mark
	m     impl.Model
	x, y  int64
	rows  [][]impl.Frac
	right []impl.Frac
	a, b  []int64
	most  int64
}

// overlayAnswer has what a call answers, and else nothing.
type overlayAnswer struct {
	holds bool
	value impl.ShapeInt
	frac  impl.FracResult
	pair  impl.FracPair
	model impl.ModelResult
	lines impl.LinesFit
}

type overlayCall = callLike[overlayAsk, overlayAnswer]

// overlayCalls stand beside what the plain reckoning answers.
func overlayCalls() []overlayCall {
	return []overlayCall{
		{"MarksFault",
			func(q overlayAsk) overlayAnswer { return overlayAnswer{value: valueCode(impl.MarksFault(q.list))} },
			func(q overlayAsk) overlayAnswer { return overlayAnswer{value: valueCode(marksFaultWant(q.list))} }},
		{"ModelFault",
			func(q overlayAsk) overlayAnswer { return overlayAnswer{value: valueCode(impl.ModelFault(q.m))} },
			func(q overlayAsk) overlayAnswer { return overlayAnswer{value: valueCode(modelFaultWant(q.m))} }},
		{"PredictAt",
			func(q overlayAsk) overlayAnswer { return overlayAnswer{pair: impl.PredictAt(q.m, q.x, q.y)} },
			func(q overlayAsk) overlayAnswer { return overlayAnswer{pair: predictWant(q.m, q.x, q.y)} }},
		{"FitModel",
			func(q overlayAsk) overlayAnswer { return overlayAnswer{model: impl.FitModel(q.list)} },
			func(q overlayAsk) overlayAnswer { return overlayAnswer{model: fitWant(q.list)} }},
		{"ResidualsOf",
			func(q overlayAsk) overlayAnswer { return overlayAnswer{lines: impl.ResidualsOf(q.list, q.m)} },
			func(q overlayAsk) overlayAnswer { return overlayAnswer{lines: residualsWant(q.list, q.m)} }},
		{"CheckFit",
			func(q overlayAsk) overlayAnswer { return overlayAnswer{holds: impl.CheckFit(q.list, q.m)} },
			func(q overlayAsk) overlayAnswer { return overlayAnswer{holds: checkFitWant(q.list, q.m)} }},
		{"MissOf",
			func(q overlayAsk) overlayAnswer { return overlayAnswer{frac: impl.MissOf(q.list, q.m)} },
			func(q overlayAsk) overlayAnswer { return overlayAnswer{frac: missWant(q.list, q.m)} }},
		{"SolveRows",
			func(q overlayAsk) overlayAnswer { return overlayAnswer{lines: impl.SolveRows(q.rows, q.right)} },
			func(q overlayAsk) overlayAnswer { return overlayAnswer{lines: solveWant(q.rows, q.right)} }},
		{"ShiftOf",
			func(q overlayAsk) overlayAnswer { return overlayAnswer{value: impl.ShiftOf(q.a, q.b, q.most)} },
			func(q overlayAsk) overlayAnswer { return overlayAnswer{value: shiftWant(q.a, q.b, q.most)} }},
		{"ShiftOf one list",
			func(q overlayAsk) overlayAnswer { return overlayAnswer{value: impl.ShiftOf(q.a, q.a, q.most)} },
			func(q overlayAsk) overlayAnswer { return overlayAnswer{value: shiftWant(q.a, q.a, q.most)} }},
	}
}

// mapped has each list of an ask as the functions answer it.
func (q overlayAsk) mapped(ofMarks func([]impl.Mark) []impl.Mark, ofRows func([][]impl.Frac) [][]impl.Frac, ofFracs func([]impl.Frac) []impl.Frac, ofNumbers func([]int64) []int64) overlayAsk {
	q.list, q.rows, q.right, q.a, q.b = ofMarks(q.list), ofRows(q.rows), ofFracs(q.right), ofNumbers(q.a), ofNumbers(q.b)
	for i := range q.rows {
		q.rows[i] = ofFracs(q.rows[i])
	}
	return q
}

func (q overlayAsk) copied() overlayAsk {
	return q.mapped(slices.Clone[[]impl.Mark], slices.Clone[[][]impl.Frac], slices.Clone[[]impl.Frac], slices.Clone[[]int64])
}

// roomed has room behind each list, and each within it, which no call may write into.
func (q overlayAsk) roomed() overlayAsk {
	return q.mapped(roomFor(mark(77, 77, 77, 77)), roomFor(asFracs(77, 77)), roomFor(asFrac(77)), roomFor(int64(77)))
}

// wholly has what lies behind the ends of the lists, too; it is a copy.
func (q overlayAsk) wholly() overlayAsk {
	return q.mapped(wholeCopy[impl.Mark], wholeCopy[[]impl.Frac], wholeCopy[impl.Frac], wholeCopy[int64])
}

func (q overlayAsk) same(p overlayAsk) bool {
	return slices.Equal(q.list, p.list) && slices.EqualFunc(q.rows, p.rows, slices.Equal[[]impl.Frac]) && slices.Equal(q.right, p.right) && slices.Equal(q.a, p.a) && slices.Equal(q.b, p.b)
}

func (q overlayAsk) scribble() {
	scribbleAll(q.list, mark(-5, -6, -7, -8))
	for _, row := range q.rows {
		scribbleAll(row, ratio(-5, 0))
	}
	scribbleAll(q.right, ratio(-6, 0))
	scribbleAll(q.a, -7)
	scribbleAll(q.b, -8)
}

func (a overlayAnswer) same(b overlayAnswer) bool {
	return a.holds == b.holds && a.value == b.value && a.frac == b.frac && a.pair == b.pair && a.model == b.model && sameSolved(a.lines, b.lines)
}

func (a overlayAnswer) scribble() {
	scribbleAll(a.lines.List, ratio(-9, 0))
}

func (a overlayAnswer) code() int64 {
	return a.value.Code + a.frac.Code + a.pair.Code + a.model.Code + a.lines.Code
}

// zeroed tells whether there is nothing beside the code.
func (a overlayAnswer) zeroed() bool {
	return a.value.Value == 0 && a.frac.Frac == impl.Frac{} && a.pair.X == impl.Frac{} && a.pair.Y == impl.Frac{} && a.model.Model == impl.Model{} && len(a.lines.List) == 0
}

// rightOverlayAsk has no fault; what is told of it may still leave the bounds.
func rightOverlayAsk(chance *rand.Rand, i int) overlayAsk {
	q := overlayAsk{list: someMarks(chance, 2+chance.Intn(19), numbers(3, 50)[i%2], numbers(9, 1000)[i%2]), m: someModel(chance, numbers(30, 3000000)[i/2%2], numbers(1, 30, 3000)[i%3])}
	q.x, q.y, q.most = chance.Int63n(2001)-1000, chance.Int63n(2001)-1000, chance.Int63n(12)
	q.rows, q.right = someRows(chance, 1+chance.Intn(4), numbers(1, 9, 9000)[i%3], numbers(1, 1, 20, 9000)[i%4])
	q.a, q.b = someSignal(chance, 1+chance.Intn(9), 1000), someSignal(chance, 1+chance.Intn(9), 1000)
	if fit := fitWant(q.list); i%3 == 0 && fit.Code == impl.OK {
		q.m = fit.Model
	}
	return q
}

// someOverlayAsks are right and wrong ones, the same at every run.
func someOverlayAsks(n int) []overlayAsk {
	chance := rand.New(rand.NewSource(133))
	ends, edges := overlayEnds(), append(wrongFracs(), rightFracs()...)
	end := func() int64 { return ends[chance.Intn(len(ends))] }
	edge := func() impl.Frac { return edges[chance.Intn(len(edges))] }
	var asks []overlayAsk
	for i := range n {
		q := rightOverlayAsk(chance, i)
		row := chance.Intn(len(q.rows))
		switch i % 10 {
		case 1:
			q.list[chance.Intn(len(q.list))] = mark(end(), end(), end(), end())
		case 2:
			q.list = longer(q.list, chance.Intn(24))
		case 3:
			q.list = samePlace(1+chance.Intn(22), chance.Int63n(53), chance.Int63n(53))
		case 4:
			q.m = model(edge(), edge(), edge(), edge())
		case 5:
			q.m = changed(q.m, chance.Intn(4), edge())
			q.rows[row][chance.Intn(len(q.rows))] = edge()
		case 6:
			q.x, q.y, q.most = end(), end(), end()
			q.right[row] = edge()
		case 7:
			q.rows[row], q.right = longer(q.rows[row], chance.Intn(6)), longer(q.right, chance.Intn(6))
		case 8:
			q.rows = longer(q.rows, chance.Intn(6))
			q.a, q.b = longer(q.a, chance.Intn(210)), longer(q.b, chance.Intn(210))
		case 9:
			q.a[chance.Intn(len(q.a))], q.b[chance.Intn(len(q.b))] = end(), end()
		}
		asks = append(asks, q)
	}
	return append(asks, overlayAsk{}, greatOverlay(), fullOverlay(), oneRowOverlay())
}

// greatOverlay has far too many of all.
func greatOverlay() overlayAsk {
	return overlayAsk{list: longer(fourMarks(), 5000), m: wholeModel(0, 0, 0, 0), rows: unitRows(300), right: slices.Repeat(asFracs(1), 300), a: make([]int64, 50000), b: make([]int64, 50000), most: 100}
}

// fullOverlay has as much as there may be.
func fullOverlay() overlayAsk {
	return overlayAsk{list: cornerMarks(20, 1000, -1000, mark(50, 50, 1000, 1000)), m: wholeModel(impl.MaxNum, impl.MaxNum, 1, 1), x: 1000, y: 1000, rows: unitRows(4), right: asFracs(impl.MaxNum, impl.MaxNum, impl.MaxNum, impl.MaxNum), a: slices.Repeat(numbers(1000), 200), b: slices.Repeat(numbers(1000), 200), most: 100}
}

// oneRowOverlay has one list for its row and for its right side, which the answer may not have.
func oneRowOverlay() overlayAsk {
	row := asFracs(1)
	return overlayAsk{list: fourMarks(), m: wholeModel(0, 0, 0, 0), rows: equations(row), right: row, a: numbers(1, 2), b: numbers(2, 1), most: 2}
}

func TestEveryOverlayAskIsAnswered(t *testing.T) {
	checkSteady(t, someOverlayAsks(1000), overlayCalls())
}

func TestEveryOverlayAskIsAnsweredRightly(t *testing.T) {
	answers := checkRightly(t, someOverlayAsks(1000), overlayCalls())
	checkCodesMet(t, answers, func(a overlayAnswer) bool { return a.holds }, impl.OK, impl.ErrForm, impl.ErrMany, impl.ErrRange, impl.ErrNone)
}

func TestZeroBesideACodeOfOverlay(t *testing.T) {
	checkZeroed(t, someOverlayAsks(1000), overlayCalls())
}

func TestOverlayAnswersNewMemory(t *testing.T) {
	checkNewMemory(t, someOverlayAsks(500), overlayCalls())
}

// Every end stands once in each place where a number is given.
func TestEveryEndOfOverlay(t *testing.T) {
	bare := overlayAsk{list: marks(mark(0, 0, 1, 0), mark(2, 0, 3, 0), mark(0, 2, 1, 2)), m: wholeModel(1, 0, 1, 0), x: 3, y: 4, rows: equations(asFracs(1, 2), asFracs(3, 4)), right: asFracs(5, 6), a: numbers(0, 1, 2), b: numbers(1, 2, 0), most: 2}
	for _, n := range overlayEnds() {
		var asks []overlayAsk
		for i := range 17 {
			q := bare.copied()
			*[]*int64{&q.list[0].X, &q.list[1].Y, &q.list[2].Dx, &q.list[2].Dy, &q.m.Sx.Num, &q.m.Sy.Den, &q.m.K.Num, &q.m.R.Den, &q.x, &q.y,
				&q.rows[0][0].Num, &q.rows[1][1].Den, &q.right[0].Num, &q.right[1].Den, &q.a[2], &q.b[0], &q.most}[i] = n
			asks = append(asks, q)
		}
		checkRightly(t, asks, overlayCalls())
	}
}

func TestNoMarksAreNoMarks(t *testing.T) {
	bare := overlayAsk{m: wholeModel(0, 0, 0, 0), most: 1}
	empty := bare
	empty.list, empty.rows, empty.right, empty.a, empty.b = marks(), equations(), fracs(), numbers(), numbers()
	hollow, hollowToo := bare, bare
	hollow.rows, hollow.right, hollow.a = equations(nil), asFracs(1), numbers(1)
	hollowToo.rows, hollowToo.right, hollowToo.a, hollowToo.b = equations(fracs()), asFracs(1), numbers(1), numbers()
	checkNoneIsNone(t, [][2]overlayAsk{{bare, empty}, {hollow, hollowToo}}, overlayCalls())
}
