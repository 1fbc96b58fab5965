package tests

import (
	"math/rand"
	"slices"
	"testing"

	"loop.example/g00057/impl"
)

// dispatchAsk has what the calls of chapter 22 are given; each takes what it needs.
type dispatchAsk struct {
	list []impl.Job
	rule int64
	now  int64
	ids  []int64
	r    impl.OrderResult
	most int64
}

// dispatchAnswer has what a call answers, and else nothing.
type dispatchAnswer struct {
	value   impl.ShapeInt
	holds   bool
	order   impl.OrderResult
	batches impl.BatchesResult
}

type dispatchCall = callLike[dispatchAsk, dispatchAnswer]

// dispatchCalls stand beside what the plain reckoning answers.
func dispatchCalls() []dispatchCall {
	return []dispatchCall{
		{"JobsFault",
			func(q dispatchAsk) dispatchAnswer { return dispatchAnswer{value: valueCode(impl.JobsFault(q.list))} },
			func(q dispatchAsk) dispatchAnswer { return dispatchAnswer{value: valueCode(jobsFaultWant(q.list))} }},
		{"PickJob",
			func(q dispatchAsk) dispatchAnswer {
				return dispatchAnswer{value: impl.PickJob(q.list, q.rule, q.now)}
			},
			func(q dispatchAsk) dispatchAnswer { return dispatchAnswer{value: pickWant(q.list, q.rule, q.now)} }},
		{"RunRule",
			func(q dispatchAsk) dispatchAnswer { return dispatchAnswer{order: impl.RunRule(q.list, q.rule)} },
			func(q dispatchAsk) dispatchAnswer { return dispatchAnswer{order: ruledWant(q.list, q.rule)} }},
		{"LateOf",
			func(q dispatchAsk) dispatchAnswer { return dispatchAnswer{value: impl.LateOf(q.list, q.ids)} },
			func(q dispatchAsk) dispatchAnswer { return dispatchAnswer{value: lateWant(q.list, q.ids)} }},
		{"BestOrder",
			func(q dispatchAsk) dispatchAnswer { return dispatchAnswer{order: impl.BestOrder(q.list)} },
			func(q dispatchAsk) dispatchAnswer { return dispatchAnswer{order: bestWant(q.list)} }},
		{"CheckBest",
			func(q dispatchAsk) dispatchAnswer { return dispatchAnswer{holds: impl.CheckBest(q.list, q.r)} },
			func(q dispatchAsk) dispatchAnswer { return dispatchAnswer{holds: provedWant(q.list, q.r)} }},
		{"BatchJobs",
			func(q dispatchAsk) dispatchAnswer { return dispatchAnswer{batches: impl.BatchJobs(q.list, q.most)} },
			func(q dispatchAsk) dispatchAnswer { return dispatchAnswer{batches: batchedWant(q.list, q.most)} }},
		{"FlowEnd",
			func(q dispatchAsk) dispatchAnswer { return dispatchAnswer{value: impl.FlowEnd(q.list, q.ids)} },
			func(q dispatchAsk) dispatchAnswer { return dispatchAnswer{value: flowEndWant(q.list, q.ids)} }},
		{"FlowOrder",
			func(q dispatchAsk) dispatchAnswer { return dispatchAnswer{order: impl.FlowOrder(q.list)} },
			func(q dispatchAsk) dispatchAnswer { return dispatchAnswer{order: flowWant(q.list)} }},
	}
}

// mapped has the lists of an ask as the functions answer them.
func (q dispatchAsk) mapped(ofNumbers func([]int64) []int64, ofJobs func([]impl.Job) []impl.Job) dispatchAsk {
	q.list, q.ids, q.r.Ids = ofJobs(q.list), ofNumbers(q.ids), ofNumbers(q.r.Ids)
	return q
}

func (q dispatchAsk) copied() dispatchAsk {
	return q.mapped(slices.Clone[[]int64], slices.Clone[[]impl.Job])
}

// roomed has room behind each list, which no call may write into.
func (q dispatchAsk) roomed() dispatchAsk {
	return q.mapped(roomFor(int64(77)), roomFor(job(77, 78)))
}

// wholly has what lies behind the ends of the lists, too; it is a copy.
func (q dispatchAsk) wholly() dispatchAsk {
	return q.mapped(wholeCopy[int64], wholeCopy[impl.Job])
}

func (q dispatchAsk) same(p dispatchAsk) bool {
	return slices.Equal(q.list, p.list) && q.rule == p.rule && q.now == p.now && slices.Equal(q.ids, p.ids) && sameOrder(q.r, p.r) && q.most == p.most
}

func (q dispatchAsk) scribble() {
	scribbleAll(q.list, job(-5, -6))
	scribbleAll(q.ids, -5)
	scribbleAll(q.r.Ids, -5)
}

func (a dispatchAnswer) same(b dispatchAnswer) bool {
	return a.value == b.value && a.holds == b.holds && sameOrder(a.order, b.order) && sameBatches(a.batches, b.batches)
}

func (a dispatchAnswer) scribble() {
	scribbleAll(a.order.Ids, -5)
	for _, batch := range a.batches.Batches {
		scribbleAll(batch, -5)
	}
	scribbleAll(a.batches.Batches, numbers(-5))
}

func (a dispatchAnswer) code() int64 {
	return a.value.Code + a.order.Code + a.batches.Code
}

func (a dispatchAnswer) zeroed() bool {
	return a.value.Value == 0 && !a.holds && sameOrder(a.order, orderCode(a.order.Code)) && len(a.batches.Batches) == 0
}

// rightDispatchAsk has no fault; what is to be proved is proved as often as not.
func rightDispatchAsk(chance *rand.Rand) dispatchAsk {
	n := numbersOf(chance.Intn(5), chance.Intn(6), 8+chance.Intn(23))[chance.Intn(3)]
	q := dispatchAsk{list: someJobs(chance, n), rule: 1 + chance.Int63n(4), now: chance.Int63n(numbers(3, 50, latest+1)[chance.Intn(3)]), most: 1 + chance.Int63n(30)}
	q.ids = shuffledIds(chance, q.list)
	q.r = bestWant(q.list)
	if chance.Intn(2) == 0 {
		q.r = orderTold(lateWant(q.list, q.ids).Value, slices.Clone(q.ids)...)
	}
	return q
}

// someDispatchAsks are right and wrong ones, the same at every run.
func someDispatchAsks(n int) []dispatchAsk {
	chance, ends := rand.New(rand.NewSource(272)), jobEnds()
	end := func() int64 { return ends[chance.Intn(len(ends))] }
	var asks []dispatchAsk
	for i := range n {
		q := rightDispatchAsk(chance)
		switch i % 9 {
		case 1:
			q.list = spoiledJobs(chance, q.list)
		case 2:
			q.rule, q.most = end(), end()
		case 3:
			q.now, q.r.Value = end(), end()
		case 4:
			q.ids, q.r.Ids = append(q.ids, end()), append(q.r.Ids, q.ids...)
		case 5:
			q.ids, q.r.Ids = q.ids[:len(q.ids)/2], q.r.Ids[len(q.r.Ids)/2:]
		case 6:
			q.r.Code, q.rule = chance.Int63n(4), chance.Int63n(6)
		case 7:
			q.r.Value, q.most = q.r.Value+chance.Int63n(3)-1, 1+chance.Int63n(3)
		}
		asks = append(asks, q)
	}
	return append(asks, dispatchAsk{}, greatDispatchAsk(), fullDispatchAsk(30), fullDispatchAsk(7))
}

// greatDispatchAsk has far too much of all.
func greatDispatchAsk() dispatchAsk {
	many := longer(numbers(greatestInt, leastInt), 10000)
	one := impl.Job{Id: greatestInt, Come: leastInt, Time: greatestInt, Second: leastInt, Due: greatestInt, Weight: leastInt, Kind: greatestInt}
	return dispatchAsk{longer(jobs(one), 10000), greatestInt, leastInt, many, impl.OrderResult{Code: leastInt, Ids: many, Value: greatestInt}, leastInt}
}

// fullDispatchAsk has so many jobs, each with as much as there may be.
func fullDispatchAsk(n int) dispatchAsk {
	var list []impl.Job
	for _, id := range runOf(greatestInt-29, n) {
		list = append(list, impl.Job{Id: id, Come: 1000000, Time: 1000000, Second: 1000000, Due: 1000000, Weight: 100, Kind: 9})
	}
	ids := idsWant(list)
	return dispatchAsk{list, 4, latest, ids, orderTold(lateWant(list, ids).Value, ids...), 30}
}

func TestEveryDispatchAskIsAnswered(t *testing.T) {
	checkSteady(t, someDispatchAsks(1500), dispatchCalls())
}

func TestEveryDispatchAskIsAnsweredRightly(t *testing.T) {
	answers := checkRightly(t, someDispatchAsks(4000), dispatchCalls())
	proved := func(a dispatchAnswer) bool { return a.holds }
	checkCodesMet(t, answers, proved, impl.OK, impl.ErrForm, impl.ErrMany, impl.ErrRange, impl.ErrNone)
}

func TestZeroBesideACodeOfDispatch(t *testing.T) {
	checkZeroed(t, someDispatchAsks(3000), dispatchCalls())
}

func TestDispatchAnswersNewMemory(t *testing.T) {
	checkNewMemory(t, someDispatchAsks(1500), dispatchCalls())
}

func TestDispatchKeepsNothing(t *testing.T) {
	checkKeepsNothing(t, someDispatchAsks(300), dispatchCalls())
}

// The batches of an answer, and the room behind them, are each their own.
func TestBatchesAreApart(t *testing.T) {
	for _, q := range someDispatchAsks(1500) {
		checkApart(t, brief(q.list), impl.BatchJobs(q.list, q.most).Batches, -5, slices.Equal[[]int64])
	}
}

// The Ids that are told may be handed in again: what is answered then has its own.
func TestOneListOfIdsInTwoPlaces(t *testing.T) {
	list := plainJobs()
	best := impl.BestOrder(list)
	kept := orderTold(best.Value, slices.Clone(best.Ids)...)
	checkProved(t, "what is told", list, best, true)
	checkLate(t, "what is told", list, best.Ids, value(best.Value))
	checkFlowEnd(t, "what is told", list, best.Ids, flowEndWant(list, best.Ids))
	checkOrder(t, "what was told", best, kept)
	ruled, flow := impl.RunRule(list, impl.PickDue), impl.FlowOrder(list)
	checkApart(t, "three orders", [][]int64{best.Ids, ruled.Ids, flow.Ids, impl.BestOrder(list).Ids}, -5, slices.Equal[[]int64])
}

// checkTurnedDispatch asks every call with a plain ask in which one of so many things is turned.
func checkTurnedDispatch(t *testing.T, things int, turn func(q *dispatchAsk, i int)) {
	t.Helper()
	var asks []dispatchAsk
	for i := range things {
		q := dispatchAsk{list: plainJobs(), rule: 4, now: 5, ids: numbers(3, 7, 9, 5), r: bestWant(plainJobs()), most: 2}
		turn(&q, i)
		asks = append(asks, q)
	}
	checkRightly(t, asks, dispatchCalls())
	checkSteady(t, asks, dispatchCalls())
}

// Every end stands once in each place where a number is given.
func TestEveryEndOfDispatch(t *testing.T) {
	for _, n := range jobEnds() {
		checkTurnedDispatch(t, 23, func(q *dispatchAsk, i int) {
			places := append(fieldsOf(&q.list[0]), fieldsOf(&q.list[2])...)
			*append(places, &q.rule, &q.now, &q.ids[0], &q.ids[3], &q.r.Code, &q.r.Value, &q.r.Ids[0], &q.r.Ids[3], &q.most)[i] = n
		})
	}
}

func TestNoJobsAreNoJobs(t *testing.T) {
	bare := dispatchAsk{rule: 1, most: 1}
	empty := dispatchAsk{list: jobs(), rule: 1, ids: []int64{}, r: impl.OrderResult{Ids: []int64{}}, most: 1}
	one, oneEmpty := dispatchAsk{list: plainJobs(), rule: 2, most: 3}, dispatchAsk{list: plainJobs(), rule: 2, ids: []int64{}, r: impl.OrderResult{Ids: []int64{}}, most: 3}
	none := dispatchAsk{list: []impl.Job{}, ids: []int64{}, r: impl.OrderResult{Ids: []int64{}}}
	checkNoneIsNone(t, [][2]dispatchAsk{{bare, empty}, {one, oneEmpty}, {{}, none}}, dispatchCalls())
}
