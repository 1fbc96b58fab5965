package tests

import (
	"math/rand"
	"slices"
	"testing"

	"loop.example/g00057/impl"
)

// windowAsk has what the calls of chapter 10 are given; each takes what it needs.
type windowAsk struct {
	sizes, rows, other [][]int64
	low, high          int64
	at, wanted         int64
	w                  impl.WindowResult
}

// windowAnswer has what a call answers, and else nothing.
type windowAnswer struct {
	holds  bool
	value  impl.ShapeInt
	frac   impl.FracResult
	window impl.WindowResult
	pass   impl.PairRows
}

type windowCall = callLike[windowAsk, windowAnswer]

// windowCalls stand beside what the plain reckoning answers.
func windowCalls() []windowCall {
	return []windowCall{
		{"PassMap",
			func(q windowAsk) windowAnswer { return windowAnswer{pass: impl.PassMap(q.sizes, q.low, q.high)} },
			func(q windowAsk) windowAnswer { return windowAnswer{pass: passMapWant(q.sizes, q.low, q.high)} }},
		{"PassMap of a map",
			func(q windowAsk) windowAnswer { return windowAnswer{pass: impl.PassMap(q.rows, 1, 1)} },
			func(q windowAsk) windowAnswer { return windowAnswer{pass: passMapWant(q.rows, 1, 1)} }},
		{"BothPass",
			func(q windowAsk) windowAnswer { return windowAnswer{pass: impl.BothPass(q.rows, q.other)} },
			func(q windowAsk) windowAnswer { return windowAnswer{pass: bothPassWant(q.rows, q.other)} }},
		{"BothPass of one list",
			func(q windowAsk) windowAnswer { return windowAnswer{pass: impl.BothPass(q.rows, q.rows)} },
			func(q windowAsk) windowAnswer { return windowAnswer{pass: bothPassWant(q.rows, q.rows)} }},
		{"LargestWindow",
			func(q windowAsk) windowAnswer { return windowAnswer{window: impl.LargestWindow(q.rows)} },
			func(q windowAsk) windowAnswer { return windowAnswer{window: largestWant(q.rows)} }},
		{"CheckWindow",
			func(q windowAsk) windowAnswer { return windowAnswer{holds: impl.CheckWindow(q.rows, q.w)} },
			func(q windowAsk) windowAnswer { return windowAnswer{holds: checkWindowWant(q.rows, q.w)} }},
		{"DepthAt",
			func(q windowAsk) windowAnswer { return windowAnswer{value: impl.DepthAt(q.rows, q.at)} },
			func(q windowAsk) windowAnswer { return windowAnswer{value: rowRunWant(q.rows, q.at)} }},
		{"LatitudeAt",
			func(q windowAsk) windowAnswer { return windowAnswer{value: impl.LatitudeAt(q.rows, q.at)} },
			func(q windowAsk) windowAnswer { return windowAnswer{value: columnRunWant(q.rows, q.at)} }},
		{"CentreOf",
			func(q windowAsk) windowAnswer { return windowAnswer{frac: impl.CentreOf(q.w)} },
			func(q windowAsk) windowAnswer { return windowAnswer{frac: centreWant(q.w)} }},
		{"SlackOf",
			func(q windowAsk) windowAnswer { return windowAnswer{value: impl.SlackOf(q.sizes, q.w, q.wanted)} },
			func(q windowAsk) windowAnswer { return windowAnswer{value: slackWant(q.sizes, q.w, q.wanted)} }},
	}
}

// mapped has each list of an ask as the functions answer it.
func (q windowAsk) mapped(ofRows func([][]int64) [][]int64, ofNumbers func([]int64) []int64) windowAsk {
	for _, rows := range []*[][]int64{&q.sizes, &q.rows, &q.other} {
		out := ofRows(*rows)
		for i := range out {
			out[i] = ofNumbers(out[i])
		}
		*rows = out
	}
	return q
}

func (q windowAsk) copied() windowAsk {
	return q.mapped(slices.Clone[[][]int64], slices.Clone[[]int64])
}

// roomed has room behind each list, and each within it, which no call may write into.
func (q windowAsk) roomed() windowAsk {
	return q.mapped(roomFor(numbers(77, 77)), roomFor(int64(77)))
}

// wholly has what lies behind the ends of the lists, too; it is a copy.
func (q windowAsk) wholly() windowAsk {
	return q.mapped(wholeCopy[[]int64], wholeCopy[int64])
}

func (q windowAsk) same(p windowAsk) bool {
	return sameGrid(q.sizes, p.sizes) && sameGrid(q.rows, p.rows) && sameGrid(q.other, p.other)
}

func (q windowAsk) scribble() {
	scribbleGrid(q.sizes)
	scribbleGrid(q.rows)
	scribbleGrid(q.other)
}

func (a windowAnswer) same(b windowAnswer) bool {
	return a.holds == b.holds && a.value == b.value && a.frac == b.frac && a.window == b.window && samePass(a.pass, b.pass)
}

func (a windowAnswer) scribble() {
	scribbleGrid(a.pass.Rows)
}

func (a windowAnswer) code() int64 {
	return a.value.Code + a.frac.Code + a.window.Code + a.pass.Code
}

// zeroed tells whether there is nothing beside the code.
func (a windowAnswer) zeroed() bool {
	return a.value.Value == 0 && a.frac.Frac == impl.Frac{} && a.window.Area == 0 && a.window.Box == impl.Box{} && len(a.pass.Rows) == 0 && a.pass.Pass == 0
}

// rightWindowAsk has no fault, but that a map may have no 1.
func rightWindowAsk(chance *rand.Rand, high int, wide int, most int64) windowAsk {
	q := windowAsk{sizes: someGrid(chance, high, wide, most), rows: somePass(chance, high, wide, 1+chance.Intn(8)), other: somePass(chance, high, wide, 1+chance.Intn(8))}
	q.w = largestWant(q.rows)
	q.low, q.at, q.wanted = chance.Int63n(most+1), chance.Int63n(int64(min(high, wide))), chance.Int63n(most+1)
	q.high = q.low + chance.Int63n(most+1)
	return q
}

// someWindowAsks are right and wrong ones, the same at every run.
func someWindowAsks(n int) []windowAsk {
	chance := rand.New(rand.NewSource(111))
	ends := windowEnds()
	end := func() int64 { return ends[chance.Intn(len(ends))] }
	var asks []windowAsk
	for i := range n {
		high, wide := 1+chance.Intn(5), 1+chance.Intn(5)
		q := rightWindowAsk(chance, high, wide, numbers(3, 99, mostValue)[i%3])
		x, y := chance.Intn(wide), chance.Intn(high)
		switch i % 12 {
		case 1:
			q.sizes, q.rows = with(q.sizes, x, y, end()), with(q.rows, x, y, end())
		case 2:
			q.other = with(q.other, x, y, end())
		case 3:
			long := chance.Intn(19)
			q.sizes[y], q.rows[y], q.other[y] = longer(q.sizes[y], long), longer(q.rows[y], long), longer(q.other[y], chance.Intn(19))
		case 4:
			many := 14 + chance.Intn(5)
			q.sizes, q.rows, q.other = longer(q.sizes, many), longer(q.rows, many), longer(q.other, 14+chance.Intn(5))
		case 5:
			q.low, q.high = end(), end()
		case 6:
			q.at, q.wanted = end(), end()
		case 7:
			q.w.Box = box(end(), end(), end(), end())
		case 8:
			q.w.Box = box(chance.Int63n(4)-1, chance.Int63n(4)-1, chance.Int63n(7), chance.Int63n(7))
		case 9:
			q.w.Code, q.w.Area = end(), end()
		case 10:
			q.rows = somePass(chance, 1+chance.Intn(17), 1+chance.Intn(17), 6)
			q.w = largestWant(q.rows)
		}
		asks = append(asks, q)
	}
	return append(asks, windowAsk{}, greatWindow(), fullWindow(), oneRowWindow())
}

// greatWindow has far too many of all.
func greatWindow() windowAsk {
	rows := filled(300, 300, 1)
	return windowAsk{sizes: rows, rows: rows, other: rows, high: 1, w: window(90000, box(0, 0, 300, 300))}
}

// fullWindow has as much as there may be.
func fullWindow() windowAsk {
	rows := filled(16, 16, 1)
	return windowAsk{sizes: filled(16, 16, mostValue), rows: rows, other: copyGrid(rows), low: mostValue, high: mostValue, at: 15, wanted: mostValue, w: window(256, box(0, 0, 16, 16))}
}

// oneRowWindow has one list for all rows, which the answer may not have.
func oneRowWindow() windowAsk {
	rows := slices.Repeat(grid(numbers(1, 0, 1)), 3)
	return windowAsk{sizes: rows, rows: rows, other: rows, high: 1, w: window(3, box(0, 0, 1, 3))}
}

func TestEveryWindowAskIsAnswered(t *testing.T) {
	checkSteady(t, someWindowAsks(1200), windowCalls())
}

func TestEveryWindowAskIsAnsweredRightly(t *testing.T) {
	answers := checkRightly(t, someWindowAsks(1200), windowCalls())
	checkCodesMet(t, answers, func(a windowAnswer) bool { return a.holds }, impl.OK, impl.ErrForm, impl.ErrMany, impl.ErrRange, impl.ErrNone)
}

func TestZeroBesideACodeOfWindows(t *testing.T) {
	checkZeroed(t, someWindowAsks(1200), windowCalls())
}

func TestWindowsAnswerNewMemory(t *testing.T) {
	checkNewMemory(t, someWindowAsks(600), windowCalls())
}

// Each row of an answer, and the room behind it, is its own: whichever is written last, none turns another.
func TestRowsOfOnePassMapAreApart(t *testing.T) {
	for _, q := range someWindowAsks(600) {
		for _, c := range windowCalls() {
			for _, turned := range []bool{false, true} {
				rows := c.call(q).pass.Rows
				if turned {
					slices.Reverse(rows)
				}
				for y, row := range rows {
					scribbleAll(row, int64(-100-y))
				}
				for y, row := range rows {
					if mark := int64(-100 - y); slices.Min(row) != mark || slices.Max(row) != mark {
						t.Fatalf("two rows of %s, %s, share memory", c.name, brief(q))
					}
				}
			}
		}
	}
}

// Every end stands once in each place where a number is given.
func TestEveryEndOfWindows(t *testing.T) {
	rows := grid(numbers(1, 1, 0), numbers(1, 1, 1))
	bare := windowAsk{sizes: grid(numbers(5, 6, 9), numbers(4, 5, 7)), rows: rows, other: filled(2, 3, 1), low: 5, high: 6, at: 1, wanted: 5, w: window(4, box(0, 0, 2, 2))}
	for _, n := range windowEnds() {
		asks := slices.Repeat([]windowAsk{bare}, 16)
		asks[0].sizes = with(bare.sizes, 0, 0, n)
		asks[1].sizes = with(bare.sizes, 2, 1, n)
		asks[2].rows = with(bare.rows, 0, 0, n)
		asks[3].rows = with(bare.rows, 2, 1, n)
		asks[4].other = with(bare.other, 1, 1, n)
		asks[5].low = n
		asks[6].high = n
		asks[7].at = n
		asks[8].wanted = n
		asks[9].w.Code = n
		asks[10].w.Area = n
		asks[11].w.Box.X0 = n
		asks[12].w.Box.Y0 = n
		asks[13].w.Box.X1 = n
		asks[14].w.Box.Y1 = n
		asks[15].rows = filled(1, int(clampedTo(n, 0, 300)), 1)
		checkRightly(t, asks, windowCalls())
	}
}

func TestNoPassMapIsNoPassMap(t *testing.T) {
	bare := windowAsk{high: 1, w: window(1, box(0, 0, 1, 1))}
	empty := bare
	empty.sizes, empty.rows, empty.other = [][]int64{}, [][]int64{}, [][]int64{}
	hollow, hollowToo := bare, bare
	hollow.sizes, hollow.rows, hollow.other = grid(nil), grid(numbers(1), nil), grid(nil)
	hollowToo.sizes, hollowToo.rows, hollowToo.other = grid(numbers()), grid(numbers(1), numbers()), grid(numbers())
	some, someToo := bare, bare
	some.rows, someToo.rows, someToo.other = grid(numbers(1)), grid(numbers(1)), [][]int64{}
	checkNoneIsNone(t, [][2]windowAsk{{bare, empty}, {hollow, hollowToo}, {some, someToo}}, windowCalls())
}
