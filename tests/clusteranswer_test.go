package tests

import (
	"math/rand"
	"runtime"
	"slices"
	"sync"
	"testing"

	"loop.example/g00057/impl"
)

// clusterAsk has what the calls of chapter 20 are given; each takes what it needs.
type clusterAsk struct {
	c      impl.Cluster
	wafers int64
	list   []impl.Haul
	f      impl.Fleet
	steps  int64
}

// clusterAnswer has what a call answers, and else nothing.
type clusterAnswer struct {
	value impl.ShapeInt
	holds bool
	hauls impl.HaulsResult
	urges impl.IntsResult
	fleet impl.FleetResult
}

type clusterCall = callLike[clusterAsk, clusterAnswer]

// clusterCalls stand beside what the plain reckoning answers.
func clusterCalls() []clusterCall {
	return []clusterCall{
		{"ClusterFault",
			func(q clusterAsk) clusterAnswer { return clusterAnswer{value: valueCode(impl.ClusterFault(q.c))} },
			func(q clusterAsk) clusterAnswer { return clusterAnswer{value: valueCode(clusterFaultWant(q.c))} }},
		{"MakeSchedule",
			func(q clusterAsk) clusterAnswer { return clusterAnswer{hauls: impl.MakeSchedule(q.c, q.wafers)} },
			func(q clusterAsk) clusterAnswer { return clusterAnswer{hauls: scheduleWant(q.c, q.wafers)} }},
		{"CheckSchedule",
			func(q clusterAsk) clusterAnswer {
				return clusterAnswer{holds: impl.CheckSchedule(q.c, q.wafers, q.list)}
			},
			func(q clusterAsk) clusterAnswer { return clusterAnswer{holds: keptWant(q.c, q.wafers, q.list)} }},
		{"EndOf",
			func(q clusterAsk) clusterAnswer { return clusterAnswer{value: impl.EndOf(q.c, q.list)} },
			func(q clusterAsk) clusterAnswer { return clusterAnswer{value: haulsEndWant(q.c, q.list)} }},
		{"LeastEnd",
			func(q clusterAsk) clusterAnswer { return clusterAnswer{value: impl.LeastEnd(q.c, q.wafers)} },
			func(q clusterAsk) clusterAnswer { return clusterAnswer{value: leastEndWant(q.c, q.wafers)} }},
		{"FleetFault",
			func(q clusterAsk) clusterAnswer { return clusterAnswer{value: valueCode(impl.FleetFault(q.f))} },
			func(q clusterAsk) clusterAnswer { return clusterAnswer{value: valueCode(fleetFaultWant(q.f))} }},
		{"UrgesOf",
			func(q clusterAsk) clusterAnswer { return clusterAnswer{urges: impl.UrgesOf(q.f)} },
			func(q clusterAsk) clusterAnswer { return clusterAnswer{urges: urgesWant(q.f)} }},
		{"MoveFleet",
			func(q clusterAsk) clusterAnswer { return clusterAnswer{fleet: impl.MoveFleet(q.f)} },
			func(q clusterAsk) clusterAnswer { return clusterAnswer{fleet: movedWant(q.f)} }},
		{"RunFleet",
			func(q clusterAsk) clusterAnswer { return clusterAnswer{fleet: impl.RunFleet(q.f, q.steps)} },
			func(q clusterAsk) clusterAnswer { return clusterAnswer{fleet: ranWant(q.f, q.steps)} }},
	}
}

// mapped has the lists of an ask as the functions answer them.
func (q clusterAsk) mapped(ofNumbers func([]int64) []int64, ofHauls func([]impl.Haul) []impl.Haul) clusterAsk {
	q.c.Times, q.c.Route, q.list = ofNumbers(q.c.Times), ofNumbers(q.c.Route), ofHauls(q.list)
	q.f.At, q.f.To = ofNumbers(q.f.At), ofNumbers(q.f.To)
	return q
}

func (q clusterAsk) copied() clusterAsk {
	return q.mapped(slices.Clone[[]int64], slices.Clone[[]impl.Haul])
}

// roomed has room behind each list, which no call may write into.
func (q clusterAsk) roomed() clusterAsk {
	return q.mapped(roomFor(int64(1)), roomFor(haul(77, 0, 0, 1)))
}

// wholly has what lies behind the ends of the lists, too; it is a copy.
func (q clusterAsk) wholly() clusterAsk {
	return q.mapped(wholeCopy[int64], wholeCopy[impl.Haul])
}

func (q clusterAsk) same(p clusterAsk) bool {
	return sameCluster(q.c, p.c) && q.wafers == p.wafers && slices.Equal(q.list, p.list) && sameFleet(q.f, p.f) && q.steps == p.steps
}

func (q clusterAsk) scribble() {
	for _, list := range [][]int64{q.c.Times, q.c.Route, q.f.At, q.f.To} {
		scribbleAll(list, -5)
	}
	scribbleAll(q.list, haul(-5, -6, -7, -8))
}

func (a clusterAnswer) same(b clusterAnswer) bool {
	return a.value == b.value && a.holds == b.holds && sameHauls(a.hauls, b.hauls) && sameInts(a.urges, b.urges) && sameMadeFleet(a.fleet, b.fleet)
}

func (a clusterAnswer) scribble() {
	for _, list := range [][]int64{a.urges.List, a.fleet.Fleet.At, a.fleet.Fleet.To, a.fleet.Moved} {
		scribbleAll(list, -5)
	}
	scribbleAll(a.hauls.Hauls, haul(-5, -6, -7, -8))
}

func (a clusterAnswer) code() int64 {
	return a.value.Code + a.hauls.Code + a.urges.Code + a.fleet.Code
}

func (a clusterAnswer) zeroed() bool {
	return a.value.Value == 0 && !a.holds && len(a.hauls.Hauls) == 0 && len(a.urges.List) == 0 && sameMadeFleet(a.fleet, fleetCode(a.fleet.Code))
}

// rightClusterAsk has no fault, but that wafers may lock.
func rightClusterAsk(chance *rand.Rand, i int) clusterAsk {
	q := clusterAsk{c: someCluster(chance), f: someFleet(chance, i%9), steps: chance.Int63n(numbers(5, 40, 201)[i/3%3])}
	q.wafers = chance.Int63n(numbers(4, 13)[i/2%2])
	q.list = someHauls(chance, q.c, q.wafers, numbers(1, 20)[i/4%2])
	if made := scheduleWant(q.c, q.wafers); i%2 == 0 && made.Code == impl.OK {
		q.list = made.Hauls
	}
	return q
}

// someClusterAsks are right and wrong ones, the same at every run.
func someClusterAsks(n int) []clusterAsk {
	chance := rand.New(rand.NewSource(234))
	ends, fleets := clusterEnds(), fleetEnds()
	var asks []clusterAsk
	for i := range n {
		q := rightClusterAsk(chance, i)
		switch i % 8 {
		case 1:
			q.c = spoiledCluster(chance, q.c)
		case 2:
			q.f = spoiledFleet(chance, q.f)
		case 3:
			q.wafers, q.steps = ends[chance.Intn(len(ends))], fleets[chance.Intn(len(fleets))]
		case 4:
			q.list = turnedHauls(chance, q.list)
		case 5:
			q.list = manyHauls(199 + chance.Intn(4))
		case 6:
			q.f = fullFleet(q.f.Zones, chance.Int63n(q.f.Zones))
		}
		asks = append(asks, q)
	}
	return append(asks, clusterAsk{}, greatClusterAsk(), fullClusterAsk())
}

// greatClusterAsk has far too much of all.
func greatClusterAsk() clusterAsk {
	many := longer(numbers(greatestInt, leastInt), 10000)
	return clusterAsk{cluster(greatestInt, many, many...), greatestInt, make([]impl.Haul, 10000), impl.Fleet{Zones: greatestInt, At: many, To: many}, greatestInt}
}

// fullClusterAsk has as much as there may be.
func fullClusterAsk() clusterAsk {
	q := clusterAsk{c: cluster(100, longer(numbers(1000), 6), 6, 5, 4, 3, 2, 1), wafers: 12, f: fullFleet(30, 7), steps: 200}
	q.list = shifted(scheduleWant(q.c, 12).Hauls, 100000000)
	return q
}

func TestEveryClusterAskIsAnswered(t *testing.T) {
	checkSteady(t, someClusterAsks(1000), clusterCalls())
}

func TestEveryClusterAskIsAnsweredRightly(t *testing.T) {
	answers := checkRightly(t, someClusterAsks(1500), clusterCalls())
	kept := func(a clusterAnswer) bool { return a.holds }
	checkCodesMet(t, answers, kept, impl.OK, impl.ErrForm, impl.ErrMany, impl.ErrRange, impl.ErrTaken)
}

func TestZeroBesideACodeOfClusters(t *testing.T) {
	checkZeroed(t, someClusterAsks(1500), clusterCalls())
}

func TestClustersAnswerNewMemory(t *testing.T) {
	checkNewMemory(t, someClusterAsks(1000), clusterCalls())
}

// At, To and Moved of a fleet, and the room behind them, are each their own.
func TestListsOfFleetsAreApart(t *testing.T) {
	for _, q := range someClusterAsks(1000) {
		for _, made := range []impl.FleetResult{impl.MoveFleet(q.f), impl.RunFleet(q.f, q.steps)} {
			checkApart(t, brief(q.f), [][]int64{made.Fleet.At, made.Fleet.To, made.Moved}, -5, slices.Equal[[]int64])
		}
	}
}

// One list may be handed in as several.
func TestOneListInTwoPlaces(t *testing.T) {
	list := numbers(1, 2, 3)
	c := cluster(2, list, list...)
	checkMadeHauls(t, "Times and Route are one", c, 4, scheduleWant(copyCluster(c), 4))
	f := impl.Fleet{Zones: 5, At: list, To: list}
	checkMoved(t, "At and To are one", f, fleetOf(fleet(5, 1, 1, 2, 2, 3, 3)))
	checkRan(t, "At and To are one", f, 2, fleetOf(fleet(5, 1, 1, 2, 2, 3, 3), 0, 0))
	made := impl.RunFleet(f, 3)
	checkApart(t, "one list", [][]int64{made.Fleet.At, made.Fleet.To, made.Moved, list}, -5, slices.Equal[[]int64])
}

func TestClustersKeepNothing(t *testing.T) {
	checkKeepsNothing(t, someClusterAsks(200), clusterCalls())
}

// However many calls there are at one time, and on however many processors, each has its one answer.
func TestClustersSideBySide(t *testing.T) {
	var asks []clusterAsk
	for _, q := range someClusterAsks(60) {
		asks = append(asks, q.copied())
	}
	var want []clusterAnswer
	for _, q := range asks {
		for _, c := range clusterCalls() {
			want = append(want, c.want(q))
		}
	}
	before, had := runtime.NumGoroutine(), runtime.GOMAXPROCS(0)
	defer runtime.GOMAXPROCS(had)
	for _, processors := range []int{1, 2, had} {
		runtime.GOMAXPROCS(processors)
		var callers sync.WaitGroup
		for range 8 {
			callers.Go(func() {
				for i, q := range asks {
					for k, c := range clusterCalls() {
						if got := c.call(q); !got.same(want[i*len(clusterCalls())+k]) {
							t.Errorf("%s of %s, at one time with others: %s", c.name, brief(q), brief(got))
						}
					}
				}
			})
		}
		callers.Wait()
	}
	checkNoWorkerStays(t, before)
}

// Nothing that a call has started is still there behind it, not even where it ends early.
func TestClustersLeaveNothingRunning(t *testing.T) {
	before := runtime.NumGoroutine()
	for _, q := range someClusterAsks(300) {
		for _, c := range clusterCalls() {
			c.call(q)
		}
	}
	checkNoWorkerStays(t, before)
}

// checkTurnedClusters asks every call with a plain ask in which one of so many things is turned.
func checkTurnedClusters(t *testing.T, things int, turn func(q *clusterAsk, i int)) {
	t.Helper()
	var asks []clusterAsk
	for i := range things {
		q := clusterAsk{c: plainCluster(), wafers: 2, list: twoHauled(), f: plainFleet(), steps: 5}
		turn(&q, i)
		asks = append(asks, q)
	}
	checkRightly(t, asks, clusterCalls())
	checkSteady(t, asks, clusterCalls())
}

// Every end stands once in each place where a number is given.
func TestEveryEndOfClusters(t *testing.T) {
	for _, n := range append(clusterEnds(), fleetEnds()...) {
		checkTurnedClusters(t, 17, func(q *clusterAsk, i int) {
			first, last := &q.list[0], &q.list[5]
			*[]*int64{&q.c.Times[0], &q.c.Times[1], &q.c.Move, &q.c.Route[0], &q.c.Route[1], &q.wafers, &first.At, &last.At, &first.Wafer, &last.Wafer, &last.From, &last.To,
				&q.f.Zones, &q.f.At[1], &q.f.To[0], &q.f.To[2], &q.steps}[i] = n
		})
	}
}

func TestNoClusterIsNoCluster(t *testing.T) {
	bare := clusterAsk{c: plainCluster(), f: fleet(3), steps: 2}
	empty := clusterAsk{c: plainCluster(), list: []impl.Haul{}, f: impl.Fleet{Zones: 3, At: []int64{}, To: []int64{}}, steps: 2}
	none := clusterAsk{c: cluster(0, []int64{}, []int64{}...), list: []impl.Haul{}, f: impl.Fleet{At: []int64{}, To: []int64{}}}
	checkNoneIsNone(t, [][2]clusterAsk{{bare, empty}, {{}, none}}, clusterCalls())
}
