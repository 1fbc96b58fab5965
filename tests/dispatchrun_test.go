package tests

import (
	"math/rand"
	"slices"
	"testing"

	"loop.example/g00057/impl"
)

func TestRunRuleByHand(t *testing.T) {
	two := jobs(
		impl.Job{Id: 1, Time: 3, Due: 3, Weight: 1},
		impl.Job{Id: 2, Time: 1, Due: 1, Weight: 2})
	checkRuled(t, "two, by their coming", two, impl.PickFirst, orderTold(6, 1, 2))
	checkRuled(t, "two, by Due", two, impl.PickDue, orderTold(1, 2, 1))
	checkRuled(t, "two, by Time", two, impl.PickShort, orderTold(1, 2, 1))
	checkRuled(t, "two of one ratio", two, impl.PickRatio, orderTold(6, 1, 2))
	// 9 by 3 is behind 1 by 1 at 0; at 1 the ratios are 8 by 3 and 4 by 2, at 3 there is one left.
	ratios := jobs(dueAt(9, job(1, 3)), dueAt(1, job(2, 1)), dueAt(5, job(3, 2)))
	checkRuled(t, "by ratios, as they change", ratios, impl.PickRatio, orderTold(0, 2, 3, 1))
	// At 0 the ratios are 12 by 4 and 20 by 10; at 5 they are 7 by 4 and 15 by 10.
	later := jobs(dueAt(0, job(3, 5)), dueAt(12, job(1, 4)), dueAt(20, job(2, 10)))
	checkRuled(t, "the ratio at the time at which it is asked", later, impl.PickRatio, orderTold(12, 3, 2, 1))
	// At 0 the ratios are 6 by 2 and 14 by 5; at 5 they are 1 by 2 and 9 by 5.
	turned := jobs(dueAt(0, job(3, 5)), dueAt(6, job(1, 2)), dueAt(14, job(2, 5)))
	checkRuled(t, "not the ratio at 0", turned, impl.PickRatio, orderTold(6, 3, 1, 2))
	comes := jobs(comesAt(1, job(1, 9)), comesAt(4, job(2, 2)), comesAt(5, job(3, 1)))
	checkRuled(t, "the machine waits once, and does not look ahead", comes, impl.PickShort, orderTold(34, 1, 3, 2))
	checkRuled(t, "the machine waits once, by their coming", comes, impl.PickFirst, orderTold(35, 1, 2, 3))
	waits := jobs(comesAt(30, job(4, 2)), comesAt(11, job(3, 1)), comesAt(10, job(2, 4)), comesAt(2, job(1, 3)))
	for rule := int64(1); rule <= 4; rule++ {
		checkRuled(t, "the machine waits several times", waits, rule, orderTold(66, 1, 2, 3, 4))
	}
	just := jobs(comesAt(3, job(1, 1)), comesAt(0, job(2, 3)), comesAt(4, job(3, 1)))
	checkRuled(t, "each comes just as the one ahead is done", just, impl.PickFirst, orderTold(12, 2, 1, 3))
	tick := jobs(comesAt(4, job(1, 1)), comesAt(0, job(2, 3)))
	checkRuled(t, "it comes one behind", tick, impl.PickShort, orderTold(8, 2, 1))
	alike := jobs(comesAt(5, dueAt(9, job(9, 4))), comesAt(5, dueAt(40, job(2, 6))), comesAt(5, dueAt(7, job(6, 5))))
	checkRuled(t, "several come at one time, the least Id first", alike, impl.PickFirst, orderTold(20, 2, 6, 9))
	checkRuled(t, "several come at one time, by Due", alike, impl.PickDue, orderTold(8, 6, 9, 2))
	checkRuled(t, "several come at one time, by Time", alike, impl.PickShort, orderTold(7, 9, 6, 2))
	checkRuled(t, "several come at one time, by ratio", alike, impl.PickRatio, orderTold(8, 6, 9, 2))
	checkRuled(t, "plain, by their coming", plainJobs(), impl.PickFirst, orderTold(34, 3, 9, 7, 5))
	checkRuled(t, "plain, by Due", plainJobs(), impl.PickDue, orderTold(9, 9, 3, 7, 5))
}

func TestRunRuleAtItsEdges(t *testing.T) {
	last := comesAt(1000000, job(8, 1000000))
	full := manyJobs(30)
	for i := range full {
		full[i].Come, full[i].Time, full[i].Weight = 1000000, 1000000, 100
	}
	for rule := int64(1); rule <= 4; rule++ {
		checkRuled(t, "no jobs", nil, rule, orderTold(0))
		checkRuled(t, "one", jobs(job(8, 5)), rule, orderTold(5, 8))
		checkRuled(t, "one that comes as late as may be", jobs(last), rule, orderTold(2000000, 8))
		checkRuled(t, "two, one of them as late as may be", jobs(last, job(9, 1)), rule, orderTold(2000001, 9, 8))
		// 30 end at 2 to 31 times 10^6.
		checkRuled(t, "as much as there may be", full, rule, orderTold(49500000000, runOf(1, 30)...))
		checkRuled(t, "MaxJobs and one more", manyJobs(31), rule, orderCode(impl.ErrMany))
	}
	for _, rule := range jobEnds() {
		if rule < 1 || rule > 4 {
			checkRuled(t, "no rule", plainJobs(), rule, orderCode(impl.ErrForm))
			checkRuled(t, "no rule, no jobs", nil, rule, orderCode(impl.ErrForm))
			checkRuled(t, "no rule, too many jobs", manyJobs(31), rule, orderCode(impl.ErrMany))
			checkRuled(t, "no rule, none comes at 0", jobs(last), rule, orderCode(impl.ErrForm))
		}
	}
}

// waitsIdly tells whether a machine that runs jobs in their order waits where one that has come is not done.
func waitsIdly(order []impl.Job) bool {
	now := int64(0)
	for i, j := range order {
		if j.Come > now {
			for _, other := range order[i:] {
				if other.Come < j.Come {
					return true
				}
			}
		}
		now = max(now, j.Come) + j.Time
	}
	return false
}

// Whatever the rule: each job runs once, the machine waits only where it must, and the value is that of the order.
func TestRunRuleRunsAll(t *testing.T) {
	chance := rand.New(rand.NewSource(264))
	for range 1500 {
		list, rule := someJobs(chance, chance.Intn(31)), 1+chance.Int63n(4)
		got := impl.RunRule(list, rule)
		checkRuled(t, "some", list, rule, got)
		order, is := orderWant(list, got.Ids)
		if got.Code != impl.OK || !is || waitsIdly(order) {
			t.Fatalf("%s by the rule %d: %s", brief(list), rule, brief(got))
		}
		checkLate(t, "some", list, got.Ids, value(got.Value))
		shuffled := slices.Clone(list)
		chance.Shuffle(len(shuffled), func(i int, k int) { shuffled[i], shuffled[k] = shuffled[k], shuffled[i] })
		checkRuled(t, "in another order", shuffled, rule, got)
	}
}

// No rule is better than the best order; each of them is worse now and then, and as good now and then.
func TestNoRuleIsBetterThanTheBest(t *testing.T) {
	chance := rand.New(rand.NewSource(265))
	var worse, as [5]int
	for range 700 {
		list := someJobs(chance, chance.Intn(7))
		best := impl.BestOrder(list)
		for rule := int64(1); rule <= 4; rule++ {
			got := impl.RunRule(list, rule)
			if got.Code != impl.OK || best.Code != impl.OK || got.Value < best.Value {
				t.Fatalf("%s: the rule %d is at %d, the best is %d", brief(list), rule, got.Value, best.Value)
			}
			worse[rule] += int(bit(got.Value > best.Value))
			as[rule] += int(bit(got.Value == best.Value && best.Value > 0))
		}
	}
	if slices.Min(worse[1:]) < 50 || slices.Min(as[1:]) < 50 {
		t.Errorf("the rules are worse %v times, and as good %v times", worse[1:], as[1:])
	}
}
