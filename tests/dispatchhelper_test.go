package tests

import (
	"math/big"
	"math/rand"
	"slices"
	"testing"

	"loop.example/g00057/impl"
)

// job comes at 0, is due at 0, and takes no time on a second machine; its Weight is 1.
func job(id int64, time int64) impl.Job {
	return impl.Job{Id: id, Time: time, Weight: 1}
}

func comesAt(come int64, j impl.Job) impl.Job {
	j.Come = come
	return j
}

func dueAt(due int64, j impl.Job) impl.Job {
	j.Due = due
	return j
}

func weighs(weight int64, j impl.Job) impl.Job {
	j.Weight = weight
	return j
}

func ofKind(kind int64, j impl.Job) impl.Job {
	j.Kind = kind
	return j
}

// flowJob takes a time on each of two machines.
func flowJob(id int64, time int64, second int64) impl.Job {
	j := job(id, time)
	j.Second = second
	return j
}

func jobs(list ...impl.Job) []impl.Job {
	return list
}

// plainJobs have no fault; their Ids do not rise, two come late.
func plainJobs() []impl.Job {
	return jobs(
		impl.Job{Id: 7, Come: 4, Time: 3, Second: 5, Due: 12, Weight: 2, Kind: 1},
		impl.Job{Id: 3, Come: 0, Time: 6, Second: 2, Due: 9, Weight: 1, Kind: 0},
		impl.Job{Id: 9, Come: 0, Time: 2, Second: 2, Due: 3, Weight: 5, Kind: 1},
		impl.Job{Id: 5, Come: 20, Time: 4, Second: 0, Due: 21, Weight: 3, Kind: 0})
}

// manyJobs have the Ids from 1 on, and are alike else.
func manyJobs(n int) []impl.Job {
	var list []impl.Job
	for _, id := range runOf(1, n) {
		list = append(list, job(id, 2))
	}
	return list
}

func orderTold(value int64, ids ...int64) impl.OrderResult {
	return impl.OrderResult{Ids: ids, Value: value}
}

func orderCode(code int64) impl.OrderResult {
	return impl.OrderResult{Code: code}
}

func batchesTold(batches ...[]int64) impl.BatchesResult {
	return impl.BatchesResult{Batches: batches}
}

func batchesCode(code int64) impl.BatchesResult {
	return impl.BatchesResult{Code: code}
}

func sameOrder(a impl.OrderResult, b impl.OrderResult) bool {
	return a.Code == b.Code && a.Value == b.Value && slices.Equal(a.Ids, b.Ids)
}

func sameBatches(a impl.BatchesResult, b impl.BatchesResult) bool {
	return a.Code == b.Code && slices.EqualFunc(a.Batches, b.Batches, slices.Equal[[]int64])
}

func checkOrder(t *testing.T, what string, got impl.OrderResult, want impl.OrderResult) {
	t.Helper()
	if !sameOrder(got, want) {
		t.Errorf("%s: %s, want %s", what, brief(got), brief(want))
	}
}

func checkBatches(t *testing.T, what string, got impl.BatchesResult, want impl.BatchesResult) {
	t.Helper()
	if !sameBatches(got, want) {
		t.Errorf("%s: %s, want %s", what, brief(got), brief(want))
	}
}

// The following hold a call against the plain reckoning, too.
func checkPicked(t *testing.T, what string, list []impl.Job, rule int64, now int64, want impl.ShapeInt) {
	t.Helper()
	checkValue(t, what, impl.PickJob(list, rule, now), want)
	checkValue(t, what+", by the plain reckoning", pickWant(list, rule, now), want)
}

func checkRuled(t *testing.T, what string, list []impl.Job, rule int64, want impl.OrderResult) {
	t.Helper()
	checkOrder(t, what, impl.RunRule(list, rule), want)
	checkOrder(t, what+", by the plain reckoning", ruledWant(list, rule), want)
}

func checkLate(t *testing.T, what string, list []impl.Job, ids []int64, want impl.ShapeInt) {
	t.Helper()
	checkValue(t, what, impl.LateOf(list, ids), want)
	checkValue(t, what+", by the plain reckoning", lateWant(list, ids), want)
}

// checkBest asks the proof, too.
func checkBest(t *testing.T, what string, list []impl.Job, want impl.OrderResult) {
	t.Helper()
	got := impl.BestOrder(list)
	checkOrder(t, what, got, want)
	checkOrder(t, what+", by the plain reckoning", bestWant(list), want)
	checkProved(t, what+", what is told", list, got, got.Code == impl.OK)
}

func checkProved(t *testing.T, what string, list []impl.Job, r impl.OrderResult, want bool) {
	t.Helper()
	if got, plain := impl.CheckBest(list, r), provedWant(list, r); got != want || plain != want {
		t.Errorf("%s: %t, want %t (by the plain reckoning %t) of %s and %s", what, got, want, plain, brief(r), brief(list))
	}
}

func checkBatched(t *testing.T, what string, list []impl.Job, most int64, want impl.BatchesResult) {
	t.Helper()
	checkBatches(t, what, impl.BatchJobs(list, most), want)
	checkBatches(t, what+", by the plain reckoning", batchedWant(list, most), want)
}

func checkFlowEnd(t *testing.T, what string, list []impl.Job, ids []int64, want impl.ShapeInt) {
	t.Helper()
	checkValue(t, what, impl.FlowEnd(list, ids), want)
	checkValue(t, what+", by the plain reckoning", flowEndWant(list, ids), want)
}

func checkFlow(t *testing.T, what string, list []impl.Job, want impl.OrderResult) {
	t.Helper()
	checkOrder(t, what, impl.FlowOrder(list), want)
	checkOrder(t, what+", by the plain reckoning", flowWant(list), want)
}

// checkJobsFault asks every call, too: whatever else is wrong beside it, the fault of the jobs is told, and nothing more.
func checkJobsFault(t *testing.T, what string, list []impl.Job, code int64) {
	t.Helper()
	if got, want := impl.JobsFault(list), jobsFaultWant(list); got != code || want != code {
		t.Errorf("%s, %s: the fault is %d, want %d (by the plain reckoning %d)", what, brief(list), got, code, want)
	}
	ids := idsWant(list)
	checkFlowEnd(t, what, list, ids, flowEndWant(list, ids))
	checkFlow(t, what, list, flowWant(list))
	if code == impl.OK {
		return
	}
	asks := []dispatchAsk{
		{},
		{rule: 1, now: 5, ids: ids, r: impl.OrderResult{Ids: ids}, most: 3},
		{rule: 4, ids: numbers(9, 9), r: orderTold(5, ids...), most: 31},
		{rule: 5, now: -1, ids: longer(numbers(0), 40), r: orderCode(code), most: 0},
		{rule: leastInt, now: greatestInt, r: orderTold(greatestInt), most: leastInt},
	}
	for _, q := range asks {
		q.list = list
		for _, c := range dispatchCalls() {
			got := c.call(q)
			if c.name == "CheckBest" && !got.holds {
				continue
			}
			if got.code() != code || !got.zeroed() {
				t.Errorf("%s: %s answers %s, want the code %d", what, c.name, brief(got), code)
			}
		}
	}
}

func jobAtWant(list []impl.Job, id int64) int {
	return slices.IndexFunc(list, func(j impl.Job) bool { return j.Id == id })
}

func jobsFaultWant(list []impl.Job) int64 {
	if len(list) >= 31 {
		return impl.ErrMany
	}
	var codes faults
	for i, j := range list {
		codes.wrong(impl.ErrForm, j.Id <= 0, jobAtWant(list[:i], j.Id) >= 0)
		codes.wrong(impl.ErrRange, anyBeyond(numbers(j.Come, j.Second, j.Due), 0, 1000000), j.Time <= 0, j.Time > 1000000, j.Weight <= -1, j.Weight > 100, j.Kind <= -1, j.Kind > 9)
	}
	return codes.first()
}

func idsWant(list []impl.Job) []int64 {
	var ids []int64
	for _, j := range list {
		ids = append(ids, j.Id)
	}
	return ids
}

// pickRankWant is by what a rule picks, the least ahead.
func pickRankWant(j impl.Job, rule int64, now int64) *big.Rat {
	ranks := map[int64]*big.Rat{1: big.NewRat(j.Come, 1), 2: big.NewRat(j.Due, 1), 3: big.NewRat(j.Time, 1), 4: big.NewRat(j.Due-now, j.Time)}
	return ranks[rule]
}

func pickFaultWant(list []impl.Job, rule int64, now int64) int64 {
	var codes faults
	codes.found(jobsFaultWant(list))
	codes.wrong(impl.ErrForm, !slices.Contains(numbers(1, 2, 3, 4), rule))
	codes.wrong(impl.ErrRange, now < 0, now > latest)
	return codes.first()
}

// pickWant looks for the job that no other one goes ahead of.
func pickWant(list []impl.Job, rule int64, now int64) impl.ShapeInt {
	if code := pickFaultWant(list, rule, now); code != impl.OK {
		return valueCode(code)
	}
	best := -1
	for i, j := range list {
		if j.Come > now {
			continue
		}
		if best < 0 {
			best = i
			continue
		}
		way := pickRankWant(j, rule, now).Cmp(pickRankWant(list[best], rule, now))
		if way < 0 || way == 0 && j.Id < list[best].Id {
			best = i
		}
	}
	if best < 0 {
		return valueCode(impl.ErrNone)
	}
	return value(list[best].Id)
}

// ruledWant asks the rule again and again; where none has come, it asks at each time at which one comes.
func ruledWant(list []impl.Job, rule int64) impl.OrderResult {
	if code := pickFaultWant(list, rule, 0); code != impl.OK {
		return orderCode(code)
	}
	var comes, ids []int64
	for _, j := range list {
		comes = append(comes, j.Come)
	}
	slices.Sort(comes)
	left, now := slices.Clone(list), int64(0)
	for len(left) > 0 {
		pick := pickWant(left, rule, now)
		if pick.Code == impl.ErrNone {
			now, comes = max(now, comes[0]), comes[1:]
			continue
		}
		at := jobAtWant(left, pick.Value)
		now, ids = now+left[at].Time, append(ids, pick.Value)
		left = slices.Delete(left, at, at+1)
	}
	return orderTold(lateWant(list, ids).Value, ids...)
}

// orderWant has the jobs in the order of ids, and whether that is one.
func orderWant(list []impl.Job, ids []int64) ([]impl.Job, bool) {
	if !slices.Equal(slices.Sorted(slices.Values(ids)), slices.Sorted(slices.Values(idsWant(list)))) {
		return nil, false
	}
	var order []impl.Job
	for _, id := range ids {
		order = append(order, list[jobAtWant(list, id)])
	}
	return order, true
}

// latenessWant has each end by itself: the greatest of what it is where the machine has not waited since one of the jobs came.
func latenessWant(order []impl.Job) int64 {
	late := int64(0)
	for i, j := range order {
		end, times := int64(0), int64(0)
		for k := i; k >= 0; k-- {
			times += order[k].Time
			end = max(end, order[k].Come+times)
		}
		if end > j.Due {
			late += j.Weight * (end - j.Due)
		}
	}
	return late
}

func orderedFaultWant(list []impl.Job, ids []int64) int64 {
	if code := jobsFaultWant(list); code != impl.OK {
		return code
	}
	if _, is := orderWant(list, ids); !is {
		return impl.ErrForm
	}
	return impl.OK
}

func lateWant(list []impl.Job, ids []int64) impl.ShapeInt {
	if code := orderedFaultWant(list, ids); code != impl.OK {
		return valueCode(code)
	}
	order, _ := orderWant(list, ids)
	return value(latenessWant(order))
}

// allOrders are all orders of some jobs, whatever stands first.
func allOrders(list []impl.Job) [][]impl.Job {
	if len(list) == 0 {
		return [][]impl.Job{nil}
	}
	var orders [][]impl.Job
	for i, first := range list {
		for _, rest := range allOrders(slices.Concat(list[:i], list[i+1:])) {
			orders = append(orders, append(jobs(first), rest...))
		}
	}
	return orders
}

// bestWant holds every order against the best so far, by its lateness and then by its Ids.
func bestWant(list []impl.Job) impl.OrderResult {
	var codes faults
	codes.found(jobsFaultWant(list))
	codes.wrong(impl.ErrMany, len(list) >= 8)
	if len(codes) > 0 {
		return orderCode(codes.first())
	}
	best := orderTold(greatestInt)
	for _, order := range allOrders(list) {
		tried := orderTold(latenessWant(order), idsWant(order)...)
		if tried.Value < best.Value || tried.Value == best.Value && slices.Compare(tried.Ids, best.Ids) < 0 {
			best = tried
		}
	}
	return best
}

func provedWant(list []impl.Job, r impl.OrderResult) bool {
	best, late := bestWant(list), lateWant(list, r.Ids)
	return r.Code == 0 && best.Code == 0 && late == value(r.Value) && r.Value == best.Value
}

// byComeWant has the jobs by rising Come, then Id.
func byComeWant(list []impl.Job) []impl.Job {
	sorted := slices.Clone(list)
	slices.SortFunc(sorted, func(a impl.Job, b impl.Job) int {
		return slices.Compare(numbers(a.Come, a.Id), numbers(b.Come, b.Id))
	})
	return sorted
}

// batchedWant cuts the jobs of each kind by themselves, and puts the batches in the order of their first jobs.
func batchedWant(list []impl.Job, most int64) impl.BatchesResult {
	var codes faults
	codes.found(jobsFaultWant(list))
	codes.wrong(impl.ErrRange, most < 1, most > 30)
	if len(codes) > 0 {
		return batchesCode(codes.first())
	}
	var batches [][]int64
	for kind := range int64(10) {
		var own []int64
		for _, j := range byComeWant(list) {
			if j.Kind == kind {
				own = append(own, j.Id)
			}
		}
		batches = slices.AppendSeq(batches, slices.Chunk(own, int(most)))
	}
	place := func(batch []int64) int { return jobAtWant(byComeWant(list), batch[0]) }
	slices.SortFunc(batches, func(a []int64, b []int64) int { return place(a) - place(b) })
	return batchesTold(batches...)
}

// flowWantEnd is the greatest of all sums of what is done on the first machine up to a job, and on the second from it on.
func flowWantEnd(order []impl.Job) int64 {
	end := int64(0)
	for at := range order {
		sum := int64(0)
		for _, j := range order[:at+1] {
			sum += j.Time
		}
		for _, j := range order[at:] {
			sum += j.Second
		}
		end = max(end, sum)
	}
	return end
}

func flowEndWant(list []impl.Job, ids []int64) impl.ShapeInt {
	if code := orderedFaultWant(list, ids); code != impl.OK {
		return valueCode(code)
	}
	order, _ := orderWant(list, ids)
	return value(flowWantEnd(order))
}

func flowWant(list []impl.Job) impl.OrderResult {
	if code := jobsFaultWant(list); code != impl.OK {
		return orderCode(code)
	}
	rank := func(j impl.Job) []int64 {
		if j.Time > j.Second {
			return numbers(1, -j.Second, j.Id)
		}
		return numbers(0, j.Time, j.Id)
	}
	order := slices.Clone(list)
	slices.SortFunc(order, func(a impl.Job, b impl.Job) int { return slices.Compare(rank(a), rank(b)) })
	return orderTold(flowWantEnd(order), idsWant(order)...)
}

// jobEnds stand at and just beyond every bound that chapter 22 names, and at the ends of int64.
func jobEnds() []int64 {
	list := numbers(0, 1, 2, 3, 4, 5, 6, 7, 8, 9, 10, 11, 29, 30, 31, 99, 100, 101, 999999, 1000000, 1000001, latest-1, latest, latest+1, 1<<32, wide, 1<<62, greatestInt-1, greatestInt)
	for _, n := range list {
		list = append(list, -n)
	}
	return append(list, leastInt)
}

// someIds are apart; as often as not they are neighbours, and now and then as great as may be.
func someIds(chance *rand.Rand, n int) []int64 {
	from := numbers(1, 1, 500, greatestInt-39)[chance.Intn(4)]
	var ids []int64
	for _, at := range chance.Perm(numbersOf(n, 40)[chance.Intn(2)])[:n] {
		ids = append(ids, from+int64(at))
	}
	return ids
}

// someJobs have no fault; ties are as frequent as gaps.
func someJobs(chance *rand.Rand, n int) []impl.Job {
	spread := func(list ...int64) func() int64 {
		most := list[chance.Intn(len(list))]
		return func() int64 { return chance.Int63n(most + 1) }
	}
	come, time, due, weight, kind := spread(0, 3, 40, 1000000), spread(0, 2, 9, 999999), spread(0, 12, 90, 1000000), spread(0, 1, 4, 100), spread(0, 2, 9)
	second := time
	if chance.Intn(2) == 0 {
		second = spread(0, 9, 1000000)
	}
	var list []impl.Job
	for _, id := range someIds(chance, n) {
		list = append(list, impl.Job{Id: id, Come: come(), Time: 1 + time(), Second: second(), Due: due(), Weight: weight(), Kind: kind()})
	}
	return list
}

// fieldsOf are all numbers of a job.
func fieldsOf(j *impl.Job) []*int64 {
	return []*int64{&j.Id, &j.Come, &j.Time, &j.Second, &j.Due, &j.Weight, &j.Kind}
}

// spoiledJobs have one thing or two turned, wherever they stand.
func spoiledJobs(chance *rand.Rand, list []impl.Job) []impl.Job {
	list, ends := append(slices.Clone(list), job(greatestInt, 1)), jobEnds()
	for range 1 + chance.Intn(2) {
		j, other := &list[chance.Intn(len(list))], list[chance.Intn(len(list))]
		switch chance.Intn(8) {
		case 0:
			list = longer(list, 29+chance.Intn(4))
		case 1:
			j.Id = other.Id
		default:
			fields := fieldsOf(j)
			*fields[chance.Intn(len(fields))] = ends[chance.Intn(len(ends))]
		}
	}
	return list
}

// shuffledIds are the Ids of jobs in any order.
func shuffledIds(chance *rand.Rand, list []impl.Job) []int64 {
	ids := idsWant(list)
	chance.Shuffle(len(ids), func(i int, k int) { ids[i], ids[k] = ids[k], ids[i] })
	return ids
}
