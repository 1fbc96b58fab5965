package tests

import (
	"math/big"
	"math/rand"
	"testing"

	"loop.example/g00057/impl"
)

func TestPickJobByHand(t *testing.T) {
	// At 3 the jobs 4, 8 and 2 have come.
	list := jobs(
		impl.Job{Id: 4, Come: 2, Time: 5, Due: 30, Weight: 9},
		impl.Job{Id: 8, Come: 0, Time: 7, Due: 20},
		impl.Job{Id: 1, Come: 4, Time: 1, Due: 1},
		impl.Job{Id: 2, Come: 3, Time: 2, Due: 25})
	for _, c := range []struct {
		name string
		rule int64
		now  int64
		want impl.ShapeInt
	}{
		{"of the least Come", impl.PickFirst, 3, value(8)},
		{"of the least Due", impl.PickDue, 3, value(8)},
		{"of the least Time", impl.PickShort, 3, value(2)},
		{"27 by 5, 17 by 7, 22 by 2", impl.PickRatio, 3, value(8)},
		{"the last one has just come", impl.PickDue, 4, value(1)},
		{"the last one has just come, and is the shortest", impl.PickShort, 4, value(1)},
		{"the last one has just come, -3 by 1", impl.PickRatio, 4, value(1)},
		{"the first one is first still", impl.PickFirst, latest, value(8)},
		{"one has come", impl.PickShort, 0, value(8)},
		{"one has come, the next comes just behind", impl.PickShort, 1, value(8)},
		{"the second has just come", impl.PickShort, 2, value(4)},
		{"rule 0", 0, 3, valueCode(impl.ErrForm)},
		{"rule 5", 5, 3, valueCode(impl.ErrForm)},
		{"rule -1", -1, 3, valueCode(impl.ErrForm)},
		{"now -1", impl.PickFirst, -1, valueCode(impl.ErrRange)},
		{"now 10^9", impl.PickDue, latest, value(1)},
		{"now 10^9 and one more", impl.PickDue, latest + 1, valueCode(impl.ErrRange)},
		{"rule 0 and now -1", 0, -1, valueCode(impl.ErrForm)},
		{"rule 5 and now 10^9 and one more", 5, latest + 1, valueCode(impl.ErrForm)},
	} {
		checkPicked(t, c.name, list, c.rule, c.now, c.want)
	}
	late := jobs(comesAt(5, job(1, 1)), comesAt(9, job(2, 1)))
	for rule := int64(1); rule <= 4; rule++ {
		checkPicked(t, "no jobs", nil, rule, 0, valueCode(impl.ErrNone))
		checkPicked(t, "no jobs, ever", nil, rule, latest, valueCode(impl.ErrNone))
		checkPicked(t, "no jobs, now -1", nil, rule, -1, valueCode(impl.ErrRange))
		checkPicked(t, "none has come", late, rule, 4, valueCode(impl.ErrNone))
		checkPicked(t, "one has just come", late, rule, 5, value(1))
		checkPicked(t, "it comes at 10^6", jobs(comesAt(1000000, job(6, 1))), rule, 1000000, value(6))
		checkPicked(t, "just ahead of it", jobs(comesAt(1000000, job(6, 1))), rule, 999999, valueCode(impl.ErrNone))
	}
	checkPicked(t, "no jobs, no rule", nil, 0, 0, valueCode(impl.ErrForm))
	checkPicked(t, "none has come, no rule", late, 5, 0, valueCode(impl.ErrForm))
	checkPicked(t, "none has come, now beyond", late, 1, latest+1, valueCode(impl.ErrRange))
}

// Of several that are as good the one with the least Id is picked, wherever it stands.
func TestPickJobOfTies(t *testing.T) {
	for _, ids := range [][]int64{{2, 5, 9}, {2, 9, 5}, {5, 2, 9}, {5, 9, 2}, {9, 2, 5}, {9, 5, 2}, {greatestInt, greatestInt - 1, 2}} {
		var come, due, short, ratio []impl.Job
		for i, id := range ids {
			n := int64(i + 1)
			come = append(come, impl.Job{Id: id, Come: 4, Time: 9 - n, Due: n})
			due = append(due, impl.Job{Id: id, Come: n, Time: n, Due: 40})
			short = append(short, impl.Job{Id: id, Come: 4 - n, Time: 3, Due: 50 - n})
			// 3 by 1, 6 by 2, 9 by 3 at 10.
			ratio = append(ratio, impl.Job{Id: id, Come: n, Time: n, Due: 10 + 3*n})
		}
		checkPicked(t, "of one Come", come, impl.PickFirst, 10, value(2))
		checkPicked(t, "of one Due", due, impl.PickDue, 10, value(2))
		checkPicked(t, "of one Time", short, impl.PickShort, 10, value(2))
		checkPicked(t, "of one ratio", ratio, impl.PickRatio, 10, value(2))
		for rule, list := range [][]impl.Job{come, due, short, ratio} {
			better := impl.Job{Id: 300, Come: 0, Time: 1, Due: 0}
			checkPicked(t, "one is better than those that tie", append(list, better), int64(rule+1), 10, value(300))
		}
	}
	notCome := jobs(dueAt(5, job(8, 1)), comesAt(9, dueAt(5, job(3, 1))))
	checkPicked(t, "the lesser Id has not come", notCome, impl.PickDue, 8, value(8))
	checkPicked(t, "the lesser Id has just come", notCome, impl.PickDue, 9, value(3))
}

func TestPickRatioByHand(t *testing.T) {
	pair := func(due int64, time int64, other int64, otherTime int64) []impl.Job {
		return jobs(dueAt(due, job(9, time)), dueAt(other, job(4, otherTime)))
	}
	for _, c := range []struct {
		name string
		list []impl.Job
		now  int64
		want int64
	}{
		{"both above now: 3 by 2, 2 by 1", pair(13, 2, 12, 1), 10, 9},
		{"both above now: 5 by 2, 2 by 1", pair(15, 2, 12, 1), 10, 4},
		{"as whole numbers alike, 5 by 3 is less than 7 by 4", pair(15, 3, 17, 4), 10, 9},
		{"as whole numbers alike, 8 by 5 is less than 5 by 3", pair(15, 3, 18, 5), 10, 4},
		{"one below, one above", pair(9, 100, 11, 1), 10, 9},
		{"one at now, one above", pair(10, 1, 11, 1000000), 10, 9},
		{"one at now, one below", pair(10, 1, 9, 1000000), 10, 4},
		{"both at now", pair(10, 3, 10, 7), 10, 4},
		{"both below: -4 by 2 is less than -3 by 2", pair(6, 2, 7, 2), 10, 9},
		{"both below: the long one is less urgent", pair(6, 4, 6, 2), 10, 4},
		{"both below: -1 by 1 is less than -1 by 2", pair(9, 1, 9, 2), 10, 9},
		{"both below, as whole numbers alike: -5 by 3 is less than -3 by 2", pair(5, 3, 7, 2), 10, 9},
		{"equal: 2 by 4 and 3 by 6", pair(12, 4, 13, 6), 10, 4},
		{"equal: -6 by 3 and -2 by 1", pair(4, 3, 8, 1), 10, 4},
		{"equal: 0 by 1 and 0 by 1000000", pair(10, 1, 10, 1000000), 10, 4},
		{"at 10^9 the short one", pair(1000000, 1, 0, 1000000), latest, 9},
		{"at 10^9 nearly as urgent", pair(0, 1000000, 1, 999999), latest, 4},
		{"at 10^9 of one Time", pair(0, 1000000, 1, 1000000), latest, 9},
		{"at 0 as late as may be", pair(1000000, 1, 1000000, 1000000), 0, 4},
		{"at 0 nearly alike", pair(1000000, 999999, 999999, 999998), 0, 9},
		{"at 0 nearly alike, the other way round", pair(999999, 999998, 1000000, 999999), 0, 4},
		{"equal, as large as may be", pair(1000000, 1000000, 1, 1), 0, 4},
	} {
		checkPicked(t, c.name, c.list, impl.PickRatio, c.now, value(c.want))
	}
}

func TestPickJobAtEveryEnd(t *testing.T) {
	for _, n := range jobEnds() {
		for rule := int64(1); rule <= 4; rule++ {
			want := pickWant(plainJobs(), rule, n)
			if n < 0 || n > latest {
				want = valueCode(impl.ErrRange)
			}
			checkPicked(t, "now at an end", plainJobs(), rule, n, want)
		}
		want := valueCode(impl.ErrForm)
		if n >= 1 && n <= 4 {
			want = value(numbers(3, 9, 9, 9)[n-1])
		}
		checkPicked(t, "a rule at an end", plainJobs(), n, 4, want)
	}
}

// Two jobs of all small numbers, whichever of them stands ahead.
func TestPickJobOfAllSmallPairs(t *testing.T) {
	chance := rand.New(rand.NewSource(262))
	for number := range 3 * 3 * 3 * 3 * 4 * 4 {
		take := func(most int) int64 {
			digit := number % most
			number /= most
			return int64(digit)
		}
		a := impl.Job{Id: 5, Come: take(3), Time: 1 + take(3), Due: take(4)}
		b := impl.Job{Id: 6, Come: take(3), Time: 1 + take(3), Due: take(4), Weight: chance.Int63n(101), Kind: chance.Int63n(10), Second: chance.Int63n(9)}
		for now := range int64(4) {
			for rule := int64(1); rule <= 4; rule++ {
				want := pickWant(jobs(a, b), rule, now)
				checkPicked(t, "a pair", jobs(a, b), rule, now, want)
				checkPicked(t, "a pair, turned round", jobs(b, a), rule, now, want)
			}
		}
	}
}

// Whatever is picked has come, no other that has come is better, and none as good has a lesser Id.
func TestPickedIsTheLeast(t *testing.T) {
	chance := rand.New(rand.NewSource(263))
	picked, ties := 0, 0
	for range 4000 {
		list := someJobs(chance, chance.Intn(31))
		rule, now := 1+chance.Int63n(4), chance.Int63n(numbers(2, 40, 1000001, latest+1)[chance.Intn(4)])
		got := impl.PickJob(list, rule, now)
		checkPicked(t, "some", list, rule, now, got)
		at := jobAtWant(list, got.Value)
		if got.Code != impl.OK || at < 0 {
			continue
		}
		picked++
		best := list[at]
		for _, j := range list {
			way := pickRankWant(j, rule, now).Cmp(pickRankWant(best, rule, now))
			if j.Come <= now && (way < 0 || way == 0 && j.Id < best.Id) {
				t.Errorf("%v is picked by the rule %d at %d, and %v is better", best, rule, now, j)
			}
			ties += int(bit(j.Come <= now && way == 0 && j.Id > best.Id))
		}
	}
	if picked < 2000 || ties < 500 {
		t.Errorf("%d are picked, %d others are as good", picked, ties)
	}
}

// A job's ratio is what the document says, of whatever size: all pairs of the greatest and the least numbers.
func TestPickRatioOfGreatNumbers(t *testing.T) {
	dues, times := numbers(0, 1, 2, 499999, 999998, 999999, 1000000), numbers(1, 2, 3, 499999, 999998, 999999, 1000000)
	for _, now := range numbers(0, 1, 999999, 1000000, latest-1, latest) {
		for _, due := range dues {
			for _, time := range times {
				first := big.NewRat(due-now, time)
				for _, other := range dues {
					for _, otherTime := range times {
						want := value(2)
						if first.Cmp(big.NewRat(other-now, otherTime)) < 0 {
							want = value(3)
						}
						checkPicked(t, "great numbers", jobs(dueAt(due, job(3, time)), dueAt(other, job(2, otherTime))), impl.PickRatio, now, want)
					}
				}
			}
		}
	}
}
