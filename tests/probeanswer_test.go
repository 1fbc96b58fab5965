package tests

import (
	"math/rand"
	"slices"
	"testing"

	"loop.example/g00057/impl"
)

// probeAsk has what the calls of chapter 23 are given; each takes what it needs.
type probeAsk struct {
	march    []impl.Element
	cells    int64
	fault    impl.MemFault
	measures []int64
	limits   []impl.Limit
	bins     []int64
	a, b     [][]int64
	state    []int64
	taps     []int64
	in       []int64
}

// probeAnswer has what a call answers, and else nothing.
type probeAnswer struct {
	value impl.ShapeInt
	march impl.MarchResult
	cover impl.CoverResult
	bins  impl.MapResult
	list  impl.IntsResult
}

type probeCall = callLike[probeAsk, probeAnswer]

// probeCalls stand beside what the plain reckoning answers.
func probeCalls() []probeCall {
	return []probeCall{
		{"MarchFault",
			func(q probeAsk) probeAnswer { return probeAnswer{value: valueCode(impl.MarchFault(q.march))} },
			func(q probeAsk) probeAnswer { return probeAnswer{value: valueCode(marchFaultWant(q.march))} }},
		{"RunMarch",
			func(q probeAsk) probeAnswer { return probeAnswer{march: impl.RunMarch(q.march, q.cells, q.fault)} },
			func(q probeAsk) probeAnswer { return probeAnswer{march: marchedWant(q.march, q.cells, q.fault)} }},
		{"FaultsOf",
			func(q probeAsk) probeAnswer { return probeAnswer{cover: impl.FaultsOf(q.cells)} },
			func(q probeAsk) probeAnswer { return probeAnswer{cover: faultsToldWant(q.cells)} }},
		{"CoverMarch",
			func(q probeAsk) probeAnswer { return probeAnswer{cover: impl.CoverMarch(q.march, q.cells)} },
			func(q probeAsk) probeAnswer { return probeAnswer{cover: coveredWant(q.march, q.cells)} }},
		{"BinOf",
			func(q probeAsk) probeAnswer { return probeAnswer{value: impl.BinOf(q.measures, q.limits)} },
			func(q probeAsk) probeAnswer { return probeAnswer{value: binnedWant(q.measures, q.limits)} }},
		{"Verdict",
			func(q probeAsk) probeAnswer { return probeAnswer{value: impl.Verdict(q.bins)} },
			func(q probeAsk) probeAnswer { return probeAnswer{value: verdictWant(q.bins)} }},
		{"StitchMaps",
			func(q probeAsk) probeAnswer { return probeAnswer{bins: impl.StitchMaps(q.a, q.b)} },
			func(q probeAsk) probeAnswer { return probeAnswer{bins: stitchedWant(q.a, q.b)} }},
		{"StitchMaps of one map",
			func(q probeAsk) probeAnswer { return probeAnswer{bins: impl.StitchMaps(q.b, q.b)} },
			func(q probeAsk) probeAnswer { return probeAnswer{bins: stitchedWant(q.b, q.b)} }},
		{"ShiftScan",
			func(q probeAsk) probeAnswer { return probeAnswer{list: impl.ShiftScan(q.state, q.taps, q.in)} },
			func(q probeAsk) probeAnswer { return probeAnswer{list: scannedWant(q.state, q.taps, q.in)} }},
		{"ShiftScan of one list",
			func(q probeAsk) probeAnswer { return probeAnswer{list: impl.ShiftScan(q.state, q.state, q.state)} },
			func(q probeAsk) probeAnswer { return probeAnswer{list: scannedWant(q.state, q.state, q.state)} }},
		{"SignatureOf",
			func(q probeAsk) probeAnswer { return probeAnswer{list: impl.SignatureOf(q.in, q.taps)} },
			func(q probeAsk) probeAnswer {
				return probeAnswer{list: scannedWant(make([]int64, 16), q.taps, q.in)}
			}},
	}
}

// mapped has each list of an ask as the functions answer it.
func (q probeAsk) mapped(ofNumbers func([]int64) []int64, ofElements func([]impl.Element) []impl.Element, ofLimits func([]impl.Limit) []impl.Limit, ofRows func([][]int64) [][]int64) probeAsk {
	q.march, q.limits, q.a, q.b = ofElements(q.march), ofLimits(q.limits), ofRows(q.a), ofRows(q.b)
	for i := range q.march {
		q.march[i].Ops = ofNumbers(q.march[i].Ops)
	}
	for _, rows := range [][][]int64{q.a, q.b} {
		for i := range rows {
			rows[i] = ofNumbers(rows[i])
		}
	}
	for _, list := range []*[]int64{&q.measures, &q.bins, &q.state, &q.taps, &q.in} {
		*list = ofNumbers(*list)
	}
	return q
}

func (q probeAsk) copied() probeAsk {
	return q.mapped(slices.Clone[[]int64], slices.Clone[[]impl.Element], slices.Clone[[]impl.Limit], slices.Clone[[][]int64])
}

// roomed has room behind each list, and each within it, which no call may write into.
func (q probeAsk) roomed() probeAsk {
	return q.mapped(roomFor(int64(77)), roomFor(upward(77)), roomFor(limit(77, 77, 77)), roomFor(numbers(77, 77)))
}

// wholly has what lies behind the ends of the lists, too; it is a copy.
func (q probeAsk) wholly() probeAsk {
	return q.mapped(wholeCopy[int64], wholeCopy[impl.Element], wholeCopy[impl.Limit], wholeCopy[[]int64])
}

func (q probeAsk) lists() [][]int64 {
	return [][]int64{q.measures, q.bins, q.state, q.taps, q.in}
}

func (q probeAsk) same(p probeAsk) bool {
	return sameMarch(q.march, p.march) && q.cells == p.cells && q.fault == p.fault && slices.Equal(q.limits, p.limits) &&
		sameGrid(q.a, p.a) && sameGrid(q.b, p.b) && sameGrid(q.lists(), p.lists())
}

func (q probeAsk) scribble() {
	for _, e := range q.march {
		scribbleAll(e.Ops, 3)
	}
	scribbleAll(q.march, downward(0, 1))
	scribbleAll(q.limits, limit(9, -9, -5))
	scribbleGrid(q.a)
	scribbleGrid(q.b)
	for _, list := range q.lists() {
		scribbleAll(list, -5)
	}
}

func (a probeAnswer) same(b probeAnswer) bool {
	return a.value == b.value && a.march == b.march && sameCover(a.cover, b.cover) && sameMap(a.bins, b.bins) && sameInts(a.list, b.list)
}

func (a probeAnswer) scribble() {
	scribbleAll(a.cover.Miss, cellsFault(-5, -5, -5, -5))
	scribbleGrid(a.bins.Rows)
	scribbleAll(a.list.List, -5)
}

func (a probeAnswer) code() int64 {
	return a.value.Code + a.march.Code + a.cover.Code + a.bins.Code + a.list.Code
}

func (a probeAnswer) zeroed() bool {
	return a.same(probeAnswer{value: valueCode(a.value.Code), march: marchCode(a.march.Code), cover: coverCode(a.cover.Code), bins: mapCode(a.bins.Code), list: intsCode(a.list.Code)})
}

// rightProbeAsk has no fault, but that maps may be unlike.
func rightProbeAsk(chance *rand.Rand) probeAsk {
	cells := 1 + chance.Int63n(numbers(3, 12)[chance.Intn(2)])
	q := probeAsk{march: someMarch(chance, 1+chance.Intn(6), 20*chance.Intn(3)), cells: cells, fault: someMemFault(chance, cells)}
	q.measures, q.limits = someLimits(chance, chance.Intn(41), 9)
	q.bins = someBins(chance, 1+chance.Intn(20))
	q.a, q.b = someMaps(chance, 1+chance.Intn(5), 1+chance.Intn(5), chance.Intn(2))
	n := 1 + chance.Intn(32)
	q.state, q.taps, q.in = someBelow(chance, n, 2), someBelow(chance, chance.Intn(33), int64(min(n, 16))), someBelow(chance, chance.Intn(60), 2)
	return q
}

// someProbeAsks are right and wrong ones, the same at every run.
func someProbeAsks(n int) []probeAsk {
	chance, ends := rand.New(rand.NewSource(295)), probeEnds()
	end := func() int64 { return ends[chance.Intn(len(ends))] }
	turn := func(list []int64) {
		if len(list) > 0 {
			list[chance.Intn(len(list))] = end()
		}
	}
	var asks []probeAsk
	for i := range n {
		q := rightProbeAsk(chance)
		e, fields := &q.march[chance.Intn(len(q.march))], []*int64{&q.fault.Kind, &q.fault.Cell, &q.fault.By, &q.fault.Value}
		switch i % 10 {
		case 1:
			turn(e.Ops)
			turn(q.measures)
			turn(q.bins)
		case 2:
			q.cells = end()
			turn(q.a[chance.Intn(len(q.a))])
			turn(q.b[chance.Intn(len(q.b))])
		case 3:
			*fields[chance.Intn(4)] = end()
			turn(q.state)
		case 4:
			e.Ops = longer(append(e.Ops, end()), chance.Intn(11))
			turn(q.in)
		case 5:
			q.march, q.bins, q.taps = longer(q.march, chance.Intn(15)), longer(q.bins, chance.Intn(23)), longer(append(q.taps, 0), chance.Intn(36))
		case 6:
			q.a, q.b, q.state = longer(q.a, chance.Intn(23)), longer(q.b, chance.Intn(23)), longer(q.state, chance.Intn(35))
		case 7:
			q.measures, q.in = longer(append(q.measures, 5), chance.Intn(43)), longer(append(q.in, 1), chance.Intn(203))
		case 8:
			q.limits = append(q.limits, limit(end(), end(), end()))
			q.measures = append(q.measures, end())
			turn(q.taps)
		case 9:
			q.bins, q.in = nil, nil
			turn(q.measures)
		}
		asks = append(asks, q.copied())
	}
	return append(asks, probeAsk{}, greatProbeAsk(), fullProbeAsk())
}

// greatProbeAsk has far too much of all.
func greatProbeAsk() probeAsk {
	many := longer(numbers(greatestInt, leastInt), 10000)
	return probeAsk{append(longer(marchOf(downward(2)), 10000), downward(many...)), greatestInt, cellsFault(greatestInt, leastInt, greatestInt, leastInt), many,
		longer(limits(limit(leastInt, greatestInt, leastInt)), 10000), many, filled(200, 200, leastInt), filled(300, 3, greatestInt), many, many, many}.copied()
}

// fullProbeAsk has as much of all as there may be.
func fullProbeAsk() probeAsk {
	return probeAsk{longMarch(), 12, cellsFault(5, 11, 10, 1), make([]int64, 40), manyLimits(40), longer(numbers(1, 99), 20),
		filled(20, 20, 99), filled(20, 20, 0), longer(numbers(1), 32), runOf(0, 32), longer(numbers(1, 1, 0), 200)}
}

func TestEveryProbeAskIsAnswered(t *testing.T) {
	checkSteady(t, someProbeAsks(900), probeCalls())
}

func TestEveryProbeAskIsAnsweredRightly(t *testing.T) {
	answers := checkRightly(t, someProbeAsks(2500), probeCalls())
	fails := func(a probeAnswer) bool { return a.march.Fail }
	checkCodesMet(t, answers, fails, impl.OK, impl.ErrForm, impl.ErrMany, impl.ErrRange, impl.ErrNone, impl.ErrTaken)
}

func TestZeroBesideACodeOfProbes(t *testing.T) {
	checkZeroed(t, someProbeAsks(1500), probeCalls())
}

func TestProbesAnswerNewMemory(t *testing.T) {
	checkNewMemory(t, someProbeAsks(900), probeCalls())
}

func TestProbesKeepNothing(t *testing.T) {
	checkKeepsNothing(t, someProbeAsks(300), probeCalls())
}

// The rows of an answer, and the room behind them, are each their own.
func TestRowsOfStitchedMapsAreApart(t *testing.T) {
	for _, q := range someProbeAsks(900) {
		checkApart(t, brief(q.a), impl.StitchMaps(q.a, q.b).Rows, -5, slices.Equal[[]int64])
	}
}

// Rows and Ops that stand in two places are read alone.
func TestOneListInTwoPlacesOfProbes(t *testing.T) {
	row, ops := numbers(1, 0, 3), numbers(0, 3)
	got := impl.StitchMaps(grid(row, row), grid(row, row))
	checkMap(t, "one row four times", got, mapTold(numbers(1, 0, 3), numbers(1, 0, 3)))
	checkApart(t, "one row four times", append(got.Rows, row), -5, slices.Equal[[]int64])
	checkCoverage(t, "one list of Ops twice", marchOf(upward(ops...), downward(2), upward(ops...)), 2, coveredWant(marchOf(upward(0, 3), downward(2), upward(0, 3)), 2))
	state := numbers(1, 0, 1)
	checkScanned(t, "one list three times", state, state, state, scannedWant(numbers(1, 0, 1), numbers(1, 0, 1), numbers(1, 0, 1)))
	if !slices.Equal(state, numbers(1, 0, 1)) || !slices.Equal(row, numbers(1, 0, 3)) || !slices.Equal(ops, numbers(0, 3)) {
		t.Errorf("what was given is %v, %v and %v", state, row, ops)
	}
}

// Every end stands once in each place where a number is given.
func TestEveryEndOfProbes(t *testing.T) {
	for _, n := range probeEnds() {
		var asks []probeAsk
		for i := range 20 {
			q := probeAsk{exampleMarch(), 3, cellsFault(4, 1, 0, 1), numbers(5, 6), limits(limit(0, 9, 8), limit(0, 9, 7)), numbers(1, 5, 5),
				grid(numbers(1, 0), numbers(0, 2)), grid(numbers(0, 3), numbers(0, 2)), numbers(0, 1, 1), numbers(2, 0), numbers(1, 1, 0)}
			*[]*int64{&q.march[0].Ops[0], &q.march[2].Ops[2], &q.cells, &q.fault.Kind, &q.fault.Cell, &q.fault.By, &q.fault.Value, &q.measures[0],
				&q.measures[1], &q.limits[0].Low, &q.limits[1].High, &q.limits[1].Bin, &q.bins[0], &q.bins[2], &q.a[0][1], &q.b[1][1],
				&q.state[2], &q.taps[0], &q.taps[1], &q.in[1]}[i] = n
			asks = append(asks, q)
		}
		checkRightly(t, asks, probeCalls())
		checkSteady(t, asks, probeCalls())
	}
}

func TestNoProbesAreNoProbes(t *testing.T) {
	empty := func(q probeAsk) probeAsk {
		for _, list := range []*[]int64{&q.measures, &q.bins, &q.state, &q.taps, &q.in} {
			*list = append([]int64{}, *list...)
		}
		q.march, q.limits, q.a, q.b = append([]impl.Element{}, q.march...), append([]impl.Limit{}, q.limits...), append([][]int64{}, q.a...), append([][]int64{}, q.b...)
		return q
	}
	bare, some := probeAsk{cells: 1}, probeAsk{march: marchOf(upward()), cells: 1, a: grid(nil), b: grid(numbers(1), nil), state: numbers(1)}
	rows := empty(some)
	rows.march, rows.a, rows.b = marchOf(upward([]int64{}...)), grid([]int64{}), grid(numbers(1), []int64{})
	checkNoneIsNone(t, [][2]probeAsk{{bare, empty(bare)}, {some, rows}, {{}, empty(probeAsk{})}}, probeCalls())
}
