package tests

import (
	"math/rand"
	"slices"
	"testing"

	"loop.example/g00057/impl"
)

func TestFlowEndByHand(t *testing.T) {
	list := jobs(flowJob(4, 3, 2), flowJob(1, 1, 4), flowJob(6, 5, 0))
	// On the first machine they end at 3, 4, 9; on the second at 5, 9, 9.
	checkFlowEnd(t, "as they stand", list, numbers(4, 1, 6), value(9))
	checkFlowEnd(t, "the last has no Second", list, numbers(1, 4, 6), value(9))
	checkFlowEnd(t, "the first has no Second", list, numbers(6, 4, 1), value(14))
	checkFlowEnd(t, "one without Second in the middle", list, numbers(4, 6, 1), value(13))
	checkFlowEnd(t, "no jobs", nil, nil, value(0))
	checkFlowEnd(t, "no jobs, empty lists", jobs(), []int64{}, value(0))
	checkFlowEnd(t, "one", jobs(flowJob(4, 3, 2)), numbers(4), value(5))
	checkFlowEnd(t, "one without Second", jobs(flowJob(4, 3, 0)), numbers(4), value(3))
	none := jobs(flowJob(1, 2, 0), flowJob(2, 3, 0))
	checkFlowEnd(t, "none has a Second", none, numbers(1, 2), value(5))
	checkFlowEnd(t, "none has a Second, the other way round", none, numbers(2, 1), value(5))
	waits := jobs(flowJob(1, 1, 1), flowJob(2, 10, 1), flowJob(3, 1, 1))
	checkFlowEnd(t, "the second machine waits", waits, numbers(1, 2, 3), value(13))
	checkFlowEnd(t, "it waits first", waits, numbers(2, 1, 3), value(13))
	checkFlowEnd(t, "it is never idle behind the first", jobs(flowJob(1, 1, 9), flowJob(2, 2, 9)), numbers(1, 2), value(19))
	checkFlowEnd(t, "each is done on the first just as the second is free", jobs(flowJob(1, 2, 3), flowJob(2, 3, 4)), numbers(1, 2), value(9))
	long := jobs(flowJob(1, 1, 20), flowJob(2, 3, 0))
	checkFlowEnd(t, "a job without Second is behind one that is long", long, numbers(1, 2), value(21))
	checkFlowEnd(t, "a job without Second is ahead of it", long, numbers(2, 1), value(24))
	late := jobs(comesAt(1000000, flowJob(1, 2, 3)), comesAt(500, flowJob(2, 3, 4)))
	checkFlowEnd(t, "Come counts as 0", late, numbers(1, 2), value(9))
	checkFlow(t, "Come counts as 0", late, orderTold(9, 1, 2))
	full := manyJobs(30)
	for i := range full {
		full[i].Time, full[i].Second = 1000000, 1000000
	}
	checkFlowEnd(t, "as much as there may be", full, idsWant(full), value(31000000))
	checkFlow(t, "as much as there may be", full, orderTold(31000000, idsWant(full)...))
}

func TestFlowOrderByHand(t *testing.T) {
	for _, c := range []struct {
		name string
		list []impl.Job
		want impl.OrderResult
	}{
		{"no jobs", nil, orderTold(0)},
		{"one", jobs(flowJob(8, 3, 2)), orderTold(5, 8)},
		{"two", jobs(flowJob(1, 3, 2), flowJob(2, 1, 4)), orderTold(7, 2, 1)},
		{"rising Time", jobs(flowJob(1, 3, 9), flowJob(2, 1, 9), flowJob(3, 2, 9)), orderTold(28, 2, 3, 1)},
		{"falling Second", jobs(flowJob(1, 9, 2), flowJob(2, 9, 3), flowJob(3, 9, 1)), orderTold(28, 2, 1, 3)},
		{"Time is Second", jobs(flowJob(1, 4, 4), flowJob(2, 2, 2), flowJob(3, 3, 3)), orderTold(13, 2, 3, 1)},
		{"Time is Second, the others have less", jobs(flowJob(1, 9, 8), flowJob(2, 9, 9)), orderTold(26, 2, 1)},
		{"Time is one more than Second", jobs(flowJob(1, 3, 2), flowJob(2, 9, 8), flowJob(3, 9, 9)), orderTold(28, 3, 2, 1)},
		{"ties of Time, the least Id first", jobs(flowJob(9, 2, 8), flowJob(4, 2, 3), flowJob(6, 2, 5)), orderTold(18, 4, 6, 9)},
		{"ties of Second, the least Id first", jobs(flowJob(9, 8, 2), flowJob(4, 3, 2), flowJob(6, 5, 2)), orderTold(18, 4, 6, 9)},
		{"ties of both", jobs(flowJob(9, 8, 2), flowJob(4, 1, 2), flowJob(6, 5, 2), flowJob(3, 1, 9)), orderTold(17, 3, 4, 6, 9)},
		{"a Time like the Second of another", jobs(flowJob(2, 3, 2), flowJob(1, 2, 3), flowJob(3, 3, 2)), orderTold(10, 1, 2, 3)},
		{"Second of 0", jobs(flowJob(3, 1, 0), flowJob(2, 4, 0), flowJob(1, 2, 1)), orderTold(7, 1, 2, 3)},
		{"Johnson's own", jobs(flowJob(1, 4, 5), flowJob(2, 4, 1), flowJob(3, 30, 4), flowJob(4, 6, 30), flowJob(5, 2, 3)), orderTold(47, 5, 1, 4, 3, 2)},
		{"plain", plainJobs(), orderTold(15, 9, 7, 3, 5)},
		{"MaxJobs", manyJobs(30), orderTold(60, runOf(1, 30)...)},
		{"MaxJobs and one more", manyJobs(31), orderCode(impl.ErrMany)},
		{"an Id twice", jobs(flowJob(1, 4, 5), flowJob(1, 4, 1)), orderCode(impl.ErrForm)},
		{"the greatest Ids", jobs(flowJob(greatestInt, 2, 2), flowJob(greatestInt-1, 2, 2), flowJob(1, 2, 2)), orderTold(8, 1, greatestInt-1, greatestInt)},
	} {
		checkFlow(t, c.name, c.list, c.want)
		reversed := slices.Clone(c.list)
		slices.Reverse(reversed)
		checkFlow(t, c.name+", the other way round", reversed, c.want)
	}
}

// No order of at most five jobs ends sooner on two machines than the one that is told: all are tried.
func checkEndsSoonest(t *testing.T, list []impl.Job) (worse int) {
	t.Helper()
	got := impl.FlowOrder(list)
	checkFlow(t, "some", list, got)
	checkFlowEnd(t, "the order that is told", list, got.Ids, value(got.Value))
	for _, order := range allOrders(list) {
		end := impl.FlowEnd(list, idsWant(order))
		if end.Code != impl.OK || end.Value < got.Value {
			t.Fatalf("%s: %v is told, %v ends at %v", brief(list), got, idsWant(order), end)
		}
		worse += int(bit(end.Value > got.Value))
	}
	return worse
}

func TestNoOrderEndsSoonerOfAllSmall(t *testing.T) {
	worse := 0
	for number := range 12 * 12 * 12 {
		var list []impl.Job
		for _, id := range numbers(2, 3, 1) {
			list = append(list, flowJob(id, 1+int64(number%3), int64(number/3%4)))
			number /= 12
		}
		worse += checkEndsSoonest(t, list)
	}
	if worse < 1000 {
		t.Errorf("%d orders end later", worse)
	}
}

func TestNoOrderEndsSooner(t *testing.T) {
	chance, worse := rand.New(rand.NewSource(270)), 0
	for i := range 400 {
		worse += checkEndsSoonest(t, someJobs(chance, min(5, i%7)))
	}
	if worse < 1000 {
		t.Errorf("%d orders end later", worse)
	}
}

// No order ends ahead of all that is to be done on one machine, nor, whatever it is, behind both together.
func TestSomeFlows(t *testing.T) {
	chance := rand.New(rand.NewSource(271))
	for range 3000 {
		list := someJobs(chance, chance.Intn(31))
		got := impl.FlowOrder(list)
		checkFlow(t, "some", list, got)
		ids := shuffledIds(chance, list)
		want := flowEndWant(list, ids)
		checkFlowEnd(t, "some", list, ids, want)
		first, second := int64(0), int64(0)
		for _, j := range list {
			first, second = first+j.Time, second+j.Second
		}
		if got.Value > want.Value || got.Value < max(first, second) || want.Value > first+second {
			t.Errorf("%s: %v ends at %v, the best at %d", brief(list), ids, want, got.Value)
		}
	}
}
