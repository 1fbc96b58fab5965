package tests

import (
	"math/rand"
	"slices"
	"testing"

	"loop.example/g00057/impl"
)

// latest is the greatest At of a haul.
const latest = 1000000000

func cluster(move int64, times []int64, route ...int64) impl.Cluster {
	return impl.Cluster{Times: times, Move: move, Route: route}
}

// plainCluster has no fault: wafers go through its two chambers in their order.
func plainCluster() impl.Cluster {
	return cluster(1, numbers(5, 7), 1, 2)
}

func copyCluster(c impl.Cluster) impl.Cluster {
	return cluster(c.Move, slices.Clone(c.Times), slices.Clone(c.Route)...)
}

func sameCluster(a impl.Cluster, b impl.Cluster) bool {
	return a.Move == b.Move && slices.Equal(a.Times, b.Times) && slices.Equal(a.Route, b.Route)
}

func haul(at int64, wafer int64, from int64, to int64) impl.Haul {
	return impl.Haul{At: at, Wafer: wafer, From: from, To: to}
}

// hauls takes four numbers for each: At, Wafer, From, To.
func hauls(list ...int64) []impl.Haul {
	var all []impl.Haul
	for four := range slices.Chunk(list, 4) {
		all = append(all, haul(four[0], four[1], four[2], four[3]))
	}
	return all
}

func haulsOf(list ...int64) impl.HaulsResult {
	return impl.HaulsResult{Hauls: hauls(list...)}
}

func haulsCode(code int64) impl.HaulsResult {
	return impl.HaulsResult{Code: code}
}

// manyHauls are so many of one wafer, one at each At.
func manyHauls(n int) []impl.Haul {
	list := make([]impl.Haul, n)
	for i := range list {
		list[i].At = int64(i)
	}
	return list
}

func sameHauls(a impl.HaulsResult, b impl.HaulsResult) bool {
	return a.Code == b.Code && slices.Equal(a.Hauls, b.Hauls)
}

func checkHauls(t *testing.T, what string, got impl.HaulsResult, want impl.HaulsResult) {
	t.Helper()
	if !sameHauls(got, want) {
		t.Errorf("%s: %v, want %v", what, got, want)
	}
}

// checkMadeHauls holds a schedule against the plain reckoning, too, and against the rules that it must keep.
func checkMadeHauls(t *testing.T, what string, c impl.Cluster, wafers int64, want impl.HaulsResult) {
	t.Helper()
	got := impl.MakeSchedule(c, wafers)
	checkHauls(t, what, got, want)
	checkHauls(t, what+", by the plain reckoning", scheduleWant(c, wafers), want)
	if got.Code != impl.OK {
		return
	}
	if !impl.CheckSchedule(c, wafers, got.Hauls) {
		t.Errorf("%s: what is made does not keep the rules", what)
	}
	end, least := impl.EndOf(c, got.Hauls), impl.LeastEnd(c, wafers)
	if end.Code != impl.OK || least.Code != impl.OK || end.Value < least.Value {
		t.Errorf("%s: it ends at %v, at the least at %v", what, end, least)
	}
}

func checkKept(t *testing.T, what string, c impl.Cluster, wafers int64, list []impl.Haul, want bool) {
	t.Helper()
	if got, plain := impl.CheckSchedule(c, wafers, list), keptWant(c, wafers, list); got != want || plain != want {
		t.Errorf("%s: %t, want %t (by the plain reckoning %t) of %s, %d wafers, %v", what, got, want, plain, brief(c), wafers, list)
	}
}

// checkClusterFault asks every call that tells the fault of a cluster, too, with other faults beside it.
func checkClusterFault(t *testing.T, what string, c impl.Cluster, code int64) {
	t.Helper()
	if got, want := impl.ClusterFault(c), clusterFaultWant(c); got != code || want != code {
		t.Errorf("%s, %s: the fault is %d, want %d (by the plain reckoning %d)", what, brief(c), got, code, want)
	}
	checkHauls(t, what+", without wafers", impl.MakeSchedule(c, 0), haulsCode(code))
	checkValue(t, what+", without wafers", impl.LeastEnd(c, 0), valueCode(code))
	checkValue(t, what+", without hauls", impl.EndOf(c, nil), valueCode(code))
	if got := impl.CheckSchedule(c, 0, nil); got != (code == impl.OK) {
		t.Errorf("%s, %s: CheckSchedule of nothing is %t", what, brief(c), got)
	}
	if code == impl.OK {
		return
	}
	for _, wafers := range numbers(leastInt, -1, 1, 12, 13, greatestInt) {
		checkHauls(t, what, impl.MakeSchedule(c, wafers), haulsCode(code))
		checkValue(t, what, impl.LeastEnd(c, wafers), valueCode(code))
	}
	for _, list := range [][]impl.Haul{hauls(-1, 0, 0, 1), hauls(latest+1, 0, 0, 1), manyHauls(201)} {
		checkValue(t, what, impl.EndOf(c, list), valueCode(code))
	}
}

func anyBeyond(list []int64, least int64, most int64) bool {
	return slices.ContainsFunc(list, func(n int64) bool { return n < least || n > most })
}

func clusterFaultWant(c impl.Cluster) int64 {
	chambers, places := len(c.Times), len(c.Route)
	var codes faults
	codes.wrong(impl.ErrForm, chambers == 0, places == 0)
	codes.wrong(impl.ErrMany, chambers >= 7, places >= 9)
	codes.wrong(impl.ErrRange, anyBeyond(c.Times, 1, 1000), c.Move < 1, c.Move > 100)
	codes.wrong(impl.ErrForm, anyBeyond(c.Route, 1, int64(chambers)), len(slices.Compact(slices.Clone(c.Route))) < places)
	return codes.first()
}

func wafersFaultWant(c impl.Cluster, wafers int64) int64 {
	var codes faults
	codes.found(clusterFaultWant(c))
	codes.wrong(impl.ErrRange, wafers < 0, wafers > 12)
	return codes.first()
}

// wayWant has all places of a wafer, from port to port.
func wayWant(c impl.Cluster) []int64 {
	return append(append(numbers(0), c.Route...), int64(len(c.Times)+1))
}

// stayWant is the time in a place; in the ports there is none.
func stayWant(c impl.Cluster, place int64) int64 {
	return append(append(numbers(0), c.Times...), 0)[place]
}

// floorWant is where all wafers are: how far each has come, and since when it may go on.
type floorWant struct {
	c    impl.Cluster
	legs []int
	over []int64
}

func newFloorWant(c impl.Cluster, wafers int64) floorWant {
	return floorWant{c, make([]int, wafers), make([]int64, wafers)}
}

// open tells whether a wafer is not out, and nobody is in its next place, or that is the port out.
func (f floorWant) open(wafer int) bool {
	way := wayWant(f.c)
	if f.legs[wafer] == len(way)-1 {
		return false
	}
	if f.legs[wafer] == len(way)-2 {
		return true
	}
	return !slices.ContainsFunc(f.legs, func(leg int) bool { return way[leg] == way[f.legs[wafer]+1] })
}

func (f floorWant) opens() []int {
	var list []int
	for wafer := range f.legs {
		if f.open(wafer) {
			list = append(list, wafer)
		}
	}
	return list
}

// goes moves a wafer on; the haul is the answer.
func (f floorWant) goes(wafer int, at int64) impl.Haul {
	way, leg := wayWant(f.c), f.legs[wafer]
	f.legs[wafer], f.over[wafer] = leg+1, at+f.c.Move+stayWant(f.c, way[leg+1])
	return haul(at, int64(wafer), way[leg], way[leg+1])
}

// scheduleWant looks at each tick at which the robot is free; one wafer goes, if one can.
func scheduleWant(c impl.Cluster, wafers int64) impl.HaulsResult {
	if code := wafersFaultWant(c, wafers); code != impl.OK {
		return haulsCode(code)
	}
	f, done := newFloorWant(c, wafers), []impl.Haul{}
	for tick := int64(0); len(done) < int(wafers)*(len(c.Route)+1); tick++ {
		opens := f.opens()
		if len(opens) == 0 {
			return haulsCode(impl.ErrTaken)
		}
		best := -1
		for _, wafer := range opens {
			if f.over[wafer] <= tick && (best < 0 || f.legs[wafer] > f.legs[best]) {
				best = wafer
			}
		}
		if best >= 0 {
			done = append(done, f.goes(best, tick))
			tick += c.Move - 1
		}
	}
	return impl.HaulsResult{Hauls: done}
}

// haulKept looks back at all hauls ahead of one, which were kept.
func haulKept(c impl.Cluster, wafers int64, ahead []impl.Haul, h impl.Haul) bool {
	way, legs, since := wayWant(c), map[int64]int{}, map[int64]int64{}
	for _, a := range ahead {
		legs[a.Wafer], since[a.Wafer] = legs[a.Wafer]+1, a.At+c.Move
		if h.At < a.At+c.Move {
			return false
		}
	}
	if h.Wafer < 0 || h.Wafer >= wafers || h.At < 0 || h.At > latest {
		return false
	}
	leg := legs[h.Wafer]
	if leg >= len(way)-1 || h.From != way[leg] || h.To != way[leg+1] {
		return false
	}
	for _, other := range legs {
		if way[other] == h.To && other < len(way)-1 {
			return false
		}
	}
	return h.At >= since[h.Wafer]+stayWant(c, h.From)
}

func keptWant(c impl.Cluster, wafers int64, list []impl.Haul) bool {
	if wafersFaultWant(c, wafers) != impl.OK {
		return false
	}
	for i, h := range list {
		if !haulKept(c, wafers, list[:i], h) {
			return false
		}
	}
	// No wafer has more hauls than its way has steps.
	return len(list) == int(wafers)*(len(c.Route)+1)
}

func haulsEndWant(c impl.Cluster, list []impl.Haul) impl.ShapeInt {
	ats := numbers(-c.Move)
	for _, h := range list {
		ats = append(ats, h.At)
	}
	var codes faults
	codes.found(clusterFaultWant(c))
	codes.wrong(impl.ErrMany, len(list) >= 201)
	codes.wrong(impl.ErrRange, anyBeyond(ats[1:], 0, latest))
	if len(codes) > 0 {
		return valueCode(codes.first())
	}
	return value(slices.Max(ats) + c.Move)
}

func leastEndWant(c impl.Cluster, wafers int64) impl.ShapeInt {
	if code := wafersFaultWant(c, wafers); code != impl.OK || wafers == 0 {
		return valueCode(code)
	}
	alone, steps := int64(0), int64(len(c.Route)+1)
	most := wafers * steps * c.Move
	for _, place := range c.Route {
		alone += stayWant(c, place)
		often := int64(0)
		for _, other := range c.Route {
			often += bit(other == place)
		}
		most = max(most, wafers*often*stayWant(c, place)+2*c.Move)
	}
	return value(max(most, alone+steps*c.Move))
}

// clusterEnds stand at and just beyond every bound that chapter 20 names for clusters, and at the ends of int64.
func clusterEnds() []int64 {
	list := numbers(0, 1, 2, 3, 5, 6, 7, 8, 9, 11, 12, 13, 99, 100, 101, 199, 200, 201, 999, 1000, 1001, latest-1, latest, latest+1, 1<<32, wide, 1<<62, greatestInt-1, greatestInt)
	for _, n := range list {
		list = append(list, -n)
	}
	return append(list, leastInt)
}

// someRoute has no fault; as often as not no chamber comes twice, or but the first one, again at the end.
func someRoute(chance *rand.Rand, chambers int64) []int64 {
	var route []int64
	if chambers == 1 || chance.Intn(3) > 0 {
		for _, at := range chance.Perm(int(chambers))[:1+chance.Intn(int(chambers))] {
			route = append(route, int64(at+1))
		}
		if len(route) > 1 && chance.Intn(3) == 0 {
			route = append(route, route[0])
		}
		return route
	}
	route = numbers(1 + chance.Int63n(chambers))
	for range chance.Intn(8) {
		next := 1 + chance.Int63n(chambers-1)
		route = append(route, next+bit(next >= route[len(route)-1]))
	}
	return route
}

// someCluster has no fault; its times are short or long, or like the time of a haul.
func someCluster(chance *rand.Rand) impl.Cluster {
	c := impl.Cluster{Move: 1 + chance.Int63n(numbers(2, 9, 100)[chance.Intn(3)])}
	most := numbers(3, 12, 200, 1000)[chance.Intn(4)]
	for range 1 + chance.Intn(6) {
		c.Times = append(c.Times, 1+chance.Int63n(most))
	}
	c.Route = someRoute(chance, int64(len(c.Times)))
	return c
}

// spoiledCluster has one thing or two turned, wherever they stand.
func spoiledCluster(chance *rand.Rand, c impl.Cluster) impl.Cluster {
	c, ends := copyCluster(c), clusterEnds()
	for range 1 + chance.Intn(2) {
		end := ends[chance.Intn(len(ends))]
		switch chance.Intn(7) {
		case 0:
			c.Move = end
		case 1:
			c.Times = append(c.Times, end)
		case 2:
			c.Route = append(c.Route, end)
		case 3:
			c.Times = c.Times[:chance.Intn(len(c.Times)+1)]
		case 4:
			c.Route = c.Route[:chance.Intn(len(c.Route)+1)]
		case 5:
			c.Route = append(c.Route, c.Route[max(0, len(c.Route)-1-chance.Intn(2)):]...)
		case 6:
			c.Times = append(c.Times, longer(numbers(4), chance.Intn(7))...)
		}
	}
	return c
}

// comesTwice tells whether a chamber stands in Route more than once.
func comesTwice(c impl.Cluster) bool {
	return len(slices.Compact(slices.Sorted(slices.Values(c.Route)))) < len(c.Route)
}

// someHauls are kept by the rules, whoever goes and however long the robot waits; they end early where wafers lock.
func someHauls(chance *rand.Rand, c impl.Cluster, wafers int64, wait int64) []impl.Haul {
	f, free, list := newFloorWant(c, wafers), int64(0), []impl.Haul{}
	for opens := f.opens(); len(opens) > 0; opens = f.opens() {
		wafer := opens[chance.Intn(len(opens))]
		at := max(free, f.over[wafer]) + chance.Int63n(wait)
		free, list = at+c.Move, append(list, f.goes(wafer, at))
	}
	return list
}

// smallRoutes are all routes without a fault of so many places at most.
func smallRoutes(chambers int64, most int) [][]int64 {
	routes := [][]int64{}
	for grown := [][]int64{{}}; most > 0; most-- {
		var next [][]int64
		for _, route := range grown {
			for place := int64(1); place <= chambers; place++ {
				if len(route) == 0 || route[len(route)-1] != place {
					next = append(next, append(slices.Clone(route), place))
				}
			}
		}
		routes, grown = append(routes, next...), next
	}
	return routes
}

// smallClusters are all of three chambers at most, with short times.
func smallClusters(places int) []impl.Cluster {
	var list []impl.Cluster
	for _, times := range [][]int64{{1}, {3}, {1, 1}, {1, 2}, {2, 1}, {1, 4}, {4, 1}, {1, 1, 1}, {1, 3, 5}, {5, 1, 3}, {2, 6, 2}} {
		for _, route := range smallRoutes(int64(len(times)), places) {
			for _, move := range numbers(1, 2, 3) {
				list = append(list, cluster(move, times, route...))
			}
		}
	}
	return list
}
