package tests

import (
	"math/rand"
	"slices"
	"testing"

	"loop.example/g00057/impl"
)

// chartAsk has what the calls of chapter 16 are given; each takes what it needs.
type chartAsk struct {
	list                        []int64
	centre, sigma, slack, limit int64
	num, den                    int64
	l                           impl.Loop
	first, step                 int64
	low, high                   int64
}

// chartAnswer has what a call answers, and else nothing.
type chartAnswer struct {
	value  impl.ShapeInt
	alarms impl.AlarmsResult
	list   impl.IntsResult
	run    impl.LoopResult
	part   impl.FracResult
}

type chartCall = callLike[chartAsk, chartAnswer]

// chartCalls stand beside what the plain reckoning answers.
func chartCalls() []chartCall {
	return []chartCall{
		{"ChartFault",
			func(q chartAsk) chartAnswer { return chartAnswer{value: valueCode(impl.ChartFault(q.list))} },
			func(q chartAsk) chartAnswer { return chartAnswer{value: valueCode(chartFaultWant(q.list))} }},
		{"AlarmsOf",
			func(q chartAsk) chartAnswer { return chartAnswer{alarms: impl.AlarmsOf(q.list, q.centre, q.sigma)} },
			func(q chartAsk) chartAnswer { return chartAnswer{alarms: alarmsWant(q.list, q.centre, q.sigma)} }},
		{"CusumOf",
			func(q chartAsk) chartAnswer {
				return chartAnswer{alarms: impl.CusumOf(q.list, q.centre, q.slack, q.limit)}
			},
			func(q chartAsk) chartAnswer {
				return chartAnswer{alarms: cusumWant(q.list, q.centre, q.slack, q.limit)}
			}},
		{"EwmaOf",
			func(q chartAsk) chartAnswer { return chartAnswer{list: impl.EwmaOf(q.list, q.num, q.den)} },
			func(q chartAsk) chartAnswer { return chartAnswer{list: ewmaWant(q.list, q.num, q.den)} }},
		{"LoopFault",
			func(q chartAsk) chartAnswer { return chartAnswer{value: valueCode(impl.LoopFault(q.l))} },
			func(q chartAsk) chartAnswer { return chartAnswer{value: valueCode(loopFaultWant(q.l))} }},
		{"RunLoop",
			func(q chartAsk) chartAnswer { return chartAnswer{run: impl.RunLoop(q.l, q.list)} },
			func(q chartAsk) chartAnswer { return chartAnswer{run: runWant(q.l, q.list)} }},
		{"BoundOf",
			func(q chartAsk) chartAnswer { return chartAnswer{value: impl.BoundOf(q.l, q.first, q.step)} },
			func(q chartAsk) chartAnswer { return chartAnswer{value: boundWant(q.l, q.first, q.step)} }},
		{"CapableOf",
			func(q chartAsk) chartAnswer { return chartAnswer{part: impl.CapableOf(q.list, q.low, q.high)} },
			func(q chartAsk) chartAnswer { return chartAnswer{part: capableWant(q.list, q.low, q.high)} }},
		{"WearOf",
			func(q chartAsk) chartAnswer { return chartAnswer{list: impl.WearOf(q.list, q.limit)} },
			func(q chartAsk) chartAnswer { return chartAnswer{list: wearWant(q.list, q.limit)} }},
	}
}

// mapped has the list of an ask as the function answers it.
func (q chartAsk) mapped(of func([]int64) []int64) chartAsk {
	q.list = of(q.list)
	return q
}

func (q chartAsk) copied() chartAsk {
	return q.mapped(slices.Clone[[]int64])
}

// roomed has room behind the list, which no call may write into.
func (q chartAsk) roomed() chartAsk {
	return q.mapped(roomFor(int64(77)))
}

// wholly has what lies behind the end of the list, too; it is a copy.
func (q chartAsk) wholly() chartAsk {
	return q.mapped(wholeCopy[int64])
}

func (q chartAsk) same(p chartAsk) bool {
	return slices.Equal(q.list, p.list)
}

func (q chartAsk) scribble() {
	scribbleAll(q.list, -5)
}

func (a chartAnswer) same(b chartAnswer) bool {
	return a.value == b.value && sameAlarms(a.alarms, b.alarms) && sameInts(a.list, b.list) && sameRun(a.run, b.run) && a.part == b.part
}

func (a chartAnswer) scribble() {
	scribbleAll(a.alarms.Alarms, impl.Alarm{At: -5, Rule: -6})
	scribbleAll(a.list.List, -5)
	scribbleAll(a.run.Inputs, -5)
	scribbleAll(a.run.Errors, -6)
}

func (a chartAnswer) code() int64 {
	return a.value.Code + a.alarms.Code + a.list.Code + a.run.Code + a.part.Code
}

// zeroed tells whether there is nothing beside the code.
func (a chartAnswer) zeroed() bool {
	return a.value.Value == 0 && len(a.alarms.Alarms)+len(a.list.List)+len(a.run.Inputs)+len(a.run.Errors) == 0 && a.part.Frac == impl.Frac{}
}

// rightChartAsk has no fault, but that half of the lists have numbers below 0, which no wear has.
func rightChartAsk(chance *rand.Rand, i int) chartAsk {
	most := numbers(4, 60, 3000, mostCharted)[i%4]
	either := func() int64 { return chance.Int63n(2*most+1) - most }
	q := chartAsk{list: someRuns(chance, chance.Intn(numbersOf(12, 40, 201)[i%3]), most), centre: either() / 3}
	if i%2 == 0 {
		q.list, q.centre = sizesOf(q.list), max(q.centre, -q.centre)
	}
	q.sigma, q.slack, q.limit = 1+chance.Int63n(min(most/2, 100000)), chance.Int63n(most/2+1), 1+chance.Int63n(most)
	q.den = 1 + chance.Int63n(numbers(3, 1000)[i%2])
	q.num = chance.Int63n(q.den + 1)
	q.l = loop(either(), 1+chance.Int63n(q.den), q.den, either())
	q.first, q.step = chance.Int63n(most+1), chance.Int63n(most+1)
	q.low = max(either()-1, -mostCharted)
	q.high = q.low + 1 + chance.Int63n(mostCharted-q.low)
	return q
}

// someChartAsks are right and wrong ones, the same at every run.
func someChartAsks(n int) []chartAsk {
	chance, ends := rand.New(rand.NewSource(182)), chartEnds()
	end := func() int64 { return ends[chance.Intn(len(ends))] }
	var asks []chartAsk
	for i := range n {
		q := rightChartAsk(chance, i)
		switch i % 10 {
		case 1:
			q.list = longer(numbers(max(q.centre, -q.centre)), 1+chance.Intn(20))
		case 2:
			q.list = slices.Insert(q.list, chance.Intn(len(q.list)+1), end())
		case 3:
			q.list = longer(append(q.list, 1), 198+chance.Intn(5))
		case 4:
			q.centre, q.limit = end(), end()
		case 5:
			q.sigma, q.slack = end(), end()
		case 6:
			q.num, q.den = end(), end()
		case 7:
			q.l = loop(end(), 1, 2, end())
		case 8:
			q.l.Num, q.l.Den, q.low, q.high = end(), end(), end(), end()
		case 9:
			q.first, q.step, q.list = end(), end(), longer(append(q.list, end()), 2)
		}
		asks = append(asks, q)
	}
	return append(asks, chartAsk{}, greatChart(), fullChart())
}

// greatChart has far too many numbers.
func greatChart() chartAsk {
	q := fullChart()
	q.list = make([]int64, 100000)
	return q
}

// fullChart has as much as there may be.
func fullChart() chartAsk {
	return chartAsk{list: longer(numbers(mostCharted, 0), 200), centre: -mostCharted, sigma: 100000, slack: 0, limit: mostCharted, num: 999, den: 1000,
		l: loop(-mostCharted, 1, 1000, mostCharted), first: mostCharted, step: mostCharted, low: -mostCharted, high: mostCharted}
}

func TestEveryChartAskIsAnswered(t *testing.T) {
	checkSteady(t, someChartAsks(1500), chartCalls())
}

func TestEveryChartAskIsAnsweredRightly(t *testing.T) {
	answers := checkRightly(t, someChartAsks(1500), chartCalls())
	many := func(a chartAnswer) bool { return len(a.alarms.Alarms) > 5 }
	checkCodesMet(t, answers, many, impl.OK, impl.ErrForm, impl.ErrMany, impl.ErrRange, impl.ErrNone, impl.ErrZero)
}

func TestZeroBesideACodeOfCharts(t *testing.T) {
	checkZeroed(t, someChartAsks(1500), chartCalls())
}

func TestChartsAnswerNewMemory(t *testing.T) {
	checkNewMemory(t, someChartAsks(600), chartCalls())
}

// Inputs and Errors, and the room behind each, are their own.
func TestInputsAndErrorsAreApart(t *testing.T) {
	for _, q := range append(someChartAsks(300), fullChart()) {
		run := impl.RunLoop(q.l, q.list)
		checkApart(t, brief(q), [][]int64{run.Inputs, run.Errors}, -77, slices.Equal[[]int64])
	}
}

func TestChartsKeepNothing(t *testing.T) {
	checkKeepsNothing(t, someChartAsks(60), chartCalls())
}

// Every end stands once in each place where a number is given.
func TestEveryEndOfCharts(t *testing.T) {
	one := chartAsk{list: numbers(3, 4, 5, 9, 7), centre: 5, sigma: 1, slack: 1, limit: 3, num: 1, den: 3, l: loop(6, 1, 3, 2), first: 4, step: 2, low: 1, high: 12}
	for _, n := range chartEnds() {
		var asks []chartAsk
		for i := range 17 {
			q := one.copied()
			*[]*int64{&q.list[0], &q.list[2], &q.list[4], &q.centre, &q.sigma, &q.slack, &q.limit, &q.num, &q.den, &q.l.Target, &q.l.Num, &q.l.Den, &q.l.Start,
				&q.first, &q.step, &q.low, &q.high}[i] = n
			asks = append(asks, q)
		}
		all := chartAsk{list: numbers(n, n, n), centre: n, sigma: n, slack: n, limit: n, num: n, den: n, l: loop(n, n, n, n), first: n, step: n, low: n, high: n}
		checkRightly(t, append(asks, all), chartCalls())
		checkSteady(t, append(asks, all), chartCalls())
	}
}

func TestNoNumbersAreNoNumbers(t *testing.T) {
	bare := fullChart()
	bare.list = nil
	empty := bare
	empty.list = numbers()
	wrong, wrongToo := chartAsk{}, chartAsk{list: numbers()}
	checkNoneIsNone(t, [][2]chartAsk{{bare, empty}, {wrong, wrongToo}}, chartCalls())
}
