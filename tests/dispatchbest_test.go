package tests

import (
	"math/rand"
	"slices"
	"testing"

	"loop.example/g00057/impl"
)

func TestBestOrderByHand(t *testing.T) {
	checkBest(t, "no jobs", nil, orderTold(0))
	checkBest(t, "no jobs, an empty list", jobs(), orderTold(0))
	checkBest(t, "one", jobs(dueAt(3, weighs(4, job(8, 5)))), orderTold(8, 8))
	checkBest(t, "one of the greatest Id", jobs(job(greatestInt, 5)), orderTold(5, greatestInt))
	two := jobs(
		impl.Job{Id: 1, Time: 3, Second: 2, Due: 3, Weight: 1},
		impl.Job{Id: 2, Time: 1, Second: 4, Due: 1, Weight: 2})
	checkBest(t, "two", two, orderTold(1, 2, 1))
	checkBest(t, "two, the other way round", jobs(two[1], two[0]), orderTold(1, 2, 1))
	checkBest(t, "plain", plainJobs(), orderTold(9, 9, 3, 7, 5))
	checkBest(t, "one fewer than MaxExact", manyJobs(6), orderTold(42, 1, 2, 3, 4, 5, 6))
	checkBest(t, "MaxExact", manyJobs(7), orderTold(56, 1, 2, 3, 4, 5, 6, 7))
	checkBest(t, "one more", manyJobs(8), orderCode(impl.ErrMany))
	checkBest(t, "MaxJobs", manyJobs(30), orderCode(impl.ErrMany))
	checkBest(t, "MaxJobs and one more", manyJobs(31), orderCode(impl.ErrMany))
	checkBest(t, "one more, one of them wrong", append(manyJobs(7), job(0, 1)), orderCode(impl.ErrForm))
	checkBest(t, "one more, one of no Time", append(manyJobs(7), job(8, 0)), orderCode(impl.ErrRange))
	// Time 1 to 7, and the longest has the least Id: the shortest goes first.
	var falling []impl.Job
	for _, id := range runOf(1, 7) {
		falling = append(falling, job(id, 8-id))
	}
	checkBest(t, "the last of all orders", falling, orderTold(84, 7, 6, 5, 4, 3, 2, 1))
	far := jobs(comesAt(1000000, weighs(100, job(1, 1000000))), comesAt(1000000, weighs(100, job(2, 1000000))))
	checkBest(t, "as late as may be", far, orderTold(500000000, 1, 2))
}

// The machine waits for a short and heavy one, though another has come.
func TestBestOrderThatWaits(t *testing.T) {
	waits := jobs(dueAt(100, job(1, 10)), comesAt(1, dueAt(2, weighs(100, job(2, 1)))))
	checkBest(t, "it waits", waits, orderTold(0, 2, 1))
	for rule := int64(1); rule <= 4; rule++ {
		checkRuled(t, "no rule waits", waits, rule, orderTold(900, 1, 2))
	}
	both := jobs(dueAt(3, weighs(2, job(5, 3))), comesAt(2, dueAt(4, weighs(9, job(6, 2)))), comesAt(9, dueAt(10, weighs(50, job(4, 1)))), dueAt(30, job(3, 8)))
	checkBest(t, "it waits twice", both, orderTold(8, 6, 5, 4, 3))
}

func TestFirstOfTheBestOrders(t *testing.T) {
	for _, c := range []struct {
		name string
		list []impl.Job
		want impl.OrderResult
	}{
		{"all are as good", jobs(job(9, 2), job(4, 2), job(6, 2)), orderTold(12, 4, 6, 9)},
		{"none is late", jobs(dueAt(99, job(9, 2)), dueAt(99, job(4, 7)), dueAt(99, job(6, 1))), orderTold(0, 4, 6, 9)},
		{"none has a Weight", jobs(weighs(0, job(9, 2)), weighs(0, job(4, 7)), weighs(0, job(6, 1))), orderTold(0, 4, 6, 9)},
		{"one must be first, the others are as good", jobs(dueAt(1, weighs(9, job(8, 1))), dueAt(99, job(5, 2)), dueAt(99, job(3, 2))), orderTold(0, 8, 3, 5)},
		{"one must be last", jobs(weighs(9, job(8, 1)), weighs(9, job(5, 1)), weighs(0, job(3, 50))), orderTold(27, 5, 8, 3)},
		{"two pairs", jobs(job(4, 1), job(3, 5), job(2, 1), job(1, 5)), orderTold(1+2+7+12, 2, 4, 1, 3)},
		{"the Ids are as great as may be", jobs(job(greatestInt, 1), job(greatestInt-1, 1), job(1, 1)), orderTold(6, 1, greatestInt-1, greatestInt)},
		{"not as texts: 9 is ahead of 10", jobs(job(10, 2), job(9, 2)), orderTold(6, 9, 10)},
	} {
		for _, list := range allOrders(c.list) {
			checkBest(t, c.name, list, c.want)
		}
	}
}

func TestCheckBestByHand(t *testing.T) {
	list := jobs(job(9, 2), job(4, 2), dueAt(99, job(6, 2)))
	checkBest(t, "three", list, orderTold(6, 4, 9, 6))
	light := manyJobs(8)
	for i := range light {
		light[i].Weight = 0
	}
	for name, c := range map[string]struct {
		list []impl.Job
		r    impl.OrderResult
		want bool
	}{
		"what is told":                         {list, orderTold(6, 4, 9, 6), true},
		"another order as good":                {list, orderTold(6, 9, 4, 6), true},
		"a worse one, with its value":          {list, orderTold(8, 4, 6, 9), false},
		"a worse one, with the best value":     {list, orderTold(6, 4, 6, 9), false},
		"a Value that is one more":             {list, orderTold(7, 4, 9, 6), false},
		"a Value that is one less":             {list, orderTold(5, 4, 9, 6), false},
		"a Value of 0":                         {list, orderTold(0, 4, 9, 6), false},
		"the greatest Value":                   {list, orderTold(greatestInt, 4, 9, 6), false},
		"the least Value":                      {list, orderTold(leastInt, 4, 9, 6), false},
		"Code 1":                               {list, impl.OrderResult{Code: 1, Ids: numbers(4, 9, 6), Value: 6}, false},
		"Code 2":                               {list, impl.OrderResult{Code: 2, Ids: numbers(4, 9, 6), Value: 6}, false},
		"Code -1":                              {list, impl.OrderResult{Code: -1, Ids: numbers(4, 9, 6), Value: 6}, false},
		"one is left out":                      {list, orderTold(6, 4, 9), false},
		"one is left out, with its own value":  {list, orderTold(2, 4), false},
		"one twice":                            {list, orderTold(6, 4, 4, 9), false},
		"one beside":                           {list, orderTold(6, 4, 9, 6, 1), false},
		"no Ids":                               {list, orderTold(0), false},
		"no jobs, no Ids":                      {nil, orderTold(0), true},
		"no jobs, a Value":                     {nil, orderTold(1), false},
		"no jobs, a Code":                      {nil, orderCode(impl.ErrMany), false},
		"no jobs, an Id":                       {nil, orderTold(0, 1), false},
		"MaxExact":                             {manyJobs(7), orderTold(56, 7, 3, 1, 2, 5, 4, 6), true},
		"MaxExact, one more":                   {manyJobs(7), orderTold(57, 7, 3, 1, 2, 5, 4, 6), false},
		"too many jobs":                        {manyJobs(8), orderTold(72, runOf(1, 8)...), false},
		"too many jobs, of Weight 0":           {longer(jobs(weighs(0, job(1, 1))), 8), orderTold(0, longer(numbers(1), 8)...), false},
		"too many jobs, with the code of that": {manyJobs(8), orderCode(impl.ErrMany), false},
		"far too many jobs":                    {manyJobs(10000), orderTold(0, runOf(1, 10000)...), false},
		"a list with a fault":                  {jobs(job(0, 2)), orderTold(2, 0), false},
		"a list with a fault, Value 0":         {jobs(job(0, 2)), orderTold(0), false},
		"a list with a fault, and its code":    {jobs(job(0, 2)), orderCode(impl.ErrForm), false},
		"a list of no Time":                    {jobs(job(1, 0)), orderTold(0, 1), false},
		"a list of no Time, and its code":      {jobs(job(1, 0)), orderCode(impl.ErrRange), false},
		"one Id twice":                         {jobs(job(1, 1), job(1, 1)), orderTold(3, 1, 1), false},
	} {
		checkProved(t, name, c.list, c.r, c.want)
	}
}

// Of all orders of small jobs, just those that are as good as the best one are proved.
func TestCheckBestOfAllOrders(t *testing.T) {
	chance := rand.New(rand.NewSource(267))
	met := map[bool]int{}
	for range 250 {
		list := someJobs(chance, 1+chance.Intn(4))
		best := impl.BestOrder(list)
		checkBest(t, "some", list, bestWant(list))
		for _, order := range allOrders(list) {
			late := latenessWant(order)
			proved := late == best.Value
			met[proved]++
			checkProved(t, "with its value", list, orderTold(late, idsWant(order)...), proved)
			checkProved(t, "with the best value", list, orderTold(best.Value, idsWant(order)...), proved)
			checkProved(t, "with one less", list, orderTold(late-1, idsWant(order)...), false)
			checkProved(t, "with one more", list, orderTold(late+1, idsWant(order)...), false)
			if late < best.Value || proved && slices.Compare(idsWant(order), best.Ids) < 0 {
				t.Errorf("%v is told, %v is ahead of it, of %s", best, order, brief(list))
			}
		}
	}
	if met[true] < 200 || met[false] < 200 {
		t.Errorf("so many are proved: %v", met)
	}
}

// All lists of three jobs of small numbers.
func TestBestOrderOfAllSmall(t *testing.T) {
	var kinds []impl.Job
	for number := range 2 * 2 * 3 * 2 {
		kinds = append(kinds, impl.Job{Come: 2 * int64(number%2), Time: 1 + 2*int64(number/2%2), Due: 2 * int64(number/4%3), Weight: 1 + int64(number/12)})
	}
	for _, a := range kinds {
		for _, b := range kinds {
			for _, c := range kinds {
				a.Id, b.Id, c.Id = 2, 3, 1
				list := jobs(a, b, c)
				got, want := impl.BestOrder(list), bestWant(list)
				checkOrder(t, "small", got, want)
			}
		}
	}
}

// Great lists, too, are held against all their orders; the first of the best is told in whatever order they are handed in.
func TestSomeBestOrders(t *testing.T) {
	chance := rand.New(rand.NewSource(268))
	several := 0
	for range 60 {
		list := someJobs(chance, 5+chance.Intn(3))
		want := bestWant(list)
		checkOrder(t, brief(list), impl.BestOrder(list), want)
		chance.Shuffle(len(list), func(i int, k int) { list[i], list[k] = list[k], list[i] })
		checkOrder(t, brief(list), impl.BestOrder(list), want)
		if !impl.CheckBest(list, want) {
			t.Errorf("%v is not proved of %s", want, brief(list))
		}
		several += int(bit(!slices.IsSorted(want.Ids)))
	}
	if several < 20 {
		t.Errorf("the Ids of %d fall", several)
	}
}
