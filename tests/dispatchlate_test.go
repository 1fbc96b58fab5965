package tests

import (
	"math/rand"
	"slices"
	"testing"

	"loop.example/g00057/impl"
)

// noOrders are lists of Ids that are no order of plainJobs, whose Ids are 7 3 9 5.
func noOrders() map[string][]int64 {
	return map[string][]int64{
		"none":                             nil,
		"an empty list":                    {},
		"the first is left out":            {3, 9, 5},
		"the last is left out":             {7, 3, 9},
		"one alone":                        {7},
		"one twice, one left out":          {7, 3, 9, 7},
		"one twice, side by side":          {7, 3, 3, 5},
		"one twice, and all others":        {7, 3, 9, 5, 7},
		"all twice":                        {7, 3, 9, 5, 7, 3, 9, 5},
		"one that is no job's":             {7, 3, 9, 6},
		"one that is no job's, first":      {8, 3, 9, 5},
		"one that is no job's, beside":     {7, 3, 9, 5, 6},
		"0":                                {7, 3, 9, 0},
		"0 beside":                         {0, 7, 3, 9, 5},
		"one below 0":                      {7, 3, 9, -5},
		"the greatest number":              {7, 3, 9, greatestInt},
		"the least number":                 {leastInt, 3, 9, 5},
		"places":                           {0, 1, 2, 3},
		"far too long":                     make([]int64, 100000),
		"far too long, and right at first": append([]int64{7, 3, 9, 5}, make([]int64, 100000)...),
	}
}

func TestListsThatAreNoOrder(t *testing.T) {
	for name, ids := range noOrders() {
		checkLate(t, name, plainJobs(), ids, valueCode(impl.ErrForm))
		checkFlowEnd(t, name, plainJobs(), ids, valueCode(impl.ErrForm))
		checkProved(t, name, plainJobs(), orderTold(0, ids...), false)
		checkProved(t, name+", with the best value", plainJobs(), orderTold(bestWant(plainJobs()).Value, ids...), false)
		if len(ids) > 0 {
			checkLate(t, name+", of no jobs", nil, ids, valueCode(impl.ErrForm))
			checkFlowEnd(t, name+", of no jobs", nil, ids, valueCode(impl.ErrForm))
			checkProved(t, name+", of no jobs", nil, orderTold(0, ids...), false)
		}
	}
	for _, ids := range wordsOver(numbers(1, 2, 3, 4), 4) {
		list := manyJobs(3)
		sorted := slices.Sorted(slices.Values(ids))
		want, end := valueCode(impl.ErrForm), valueCode(impl.ErrForm)
		if slices.Equal(sorted, numbers(1, 2, 3)) {
			want, end = value(12), value(6)
		}
		checkLate(t, "a small list", list, ids, want)
		checkFlowEnd(t, "a small list", list, ids, end)
	}
}

func TestLateOfByHand(t *testing.T) {
	checkLate(t, "no jobs, no Ids", nil, nil, value(0))
	checkLate(t, "no jobs, no Ids, an empty list", jobs(), []int64{}, value(0))
	for due, want := range numbers(5, 4, 3, 2, 1, 0, 0, 0) {
		checkLate(t, "one that ends at 5, by its Due", jobs(dueAt(int64(due), job(8, 5))), numbers(8), value(want))
	}
	checkLate(t, "one that is waited for", jobs(comesAt(10, dueAt(12, job(8, 5)))), numbers(8), value(3))
	checkLate(t, "one that is waited for, just at its Due", jobs(comesAt(10, dueAt(15, job(8, 5)))), numbers(8), value(0))
	checkLate(t, "Weight 0", jobs(weighs(0, job(8, 5))), numbers(8), value(0))
	checkLate(t, "Weight 100", jobs(weighs(100, dueAt(3, job(8, 5)))), numbers(8), value(200))
	early := jobs(weighs(7, dueAt(100, job(1, 5))), dueAt(2, job(2, 3)))
	checkLate(t, "what is early takes nothing away", early, numbers(1, 2), value(6))
	checkLate(t, "what is early takes nothing away, behind", early, numbers(2, 1), value(1))
	list := plainJobs()
	// They end at 6, 9, 11, 24.
	checkLate(t, "in order", list, numbers(3, 7, 9, 5), value(5*8+3*3))
	// They end at 7, 13, 15, 24.
	checkLate(t, "the first is waited for", list, numbers(7, 3, 9, 5), value(4+5*12+3*3))
	// They end at 24, 30, 32, 35.
	checkLate(t, "the last one first", list, numbers(5, 3, 9, 7), value(3*3+21+5*29+2*23))
	// They end at 2, 8, 24, 27.
	checkLate(t, "one is waited for within", list, numbers(9, 3, 5, 7), value(3*3+2*15))
	full := manyJobs(30)
	for i := range full {
		full[i].Come, full[i].Time, full[i].Weight = 1000000, 1000000, 100
	}
	checkLate(t, "as much as there may be", full, idsWant(full), value(49500000000))
	kinds := jobs(impl.Job{Id: 1, Time: 2, Second: 900, Weight: 1, Kind: 9}, impl.Job{Id: 2, Time: 3, Second: 0, Weight: 1, Kind: 0})
	checkLate(t, "Second and Kind turn nothing", kinds, numbers(1, 2), value(7))
}

func TestSomeLates(t *testing.T) {
	chance := rand.New(rand.NewSource(266))
	waited, late := 0, 0
	for range 4000 {
		list := someJobs(chance, chance.Intn(31))
		ids := shuffledIds(chance, list)
		want := lateWant(list, ids)
		checkLate(t, "some", list, ids, want)
		late += int(bit(want.Value > 0))
		order, _ := orderWant(list, ids)
		waited += int(bit(waitsIdly(order)))
		// In whatever order the jobs themselves are handed in.
		slices.Reverse(list)
		checkLate(t, "jobs the other way round", list, ids, want)
	}
	if waited < 500 || late < 500 {
		t.Errorf("%d are waited for, %d are late", waited, late)
	}
}
