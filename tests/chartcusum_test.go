package tests

import (
	"math/rand"
	"testing"

	"loop.example/g00057/impl"
)

// cusumCase is what the sums of a list tell.
type cusumCase struct {
	name                 string
	list                 []int64
	centre, slack, limit int64
	want                 impl.AlarmsResult
}

func checkCusum(t *testing.T, c cusumCase) {
	t.Helper()
	checkToldAlarms(t, c.name, impl.CusumOf(c.list, c.centre, c.slack, c.limit), c.want)
	checkToldAlarms(t, c.name+", plainly", cusumWant(c.list, c.centre, c.slack, c.limit), c.want)
}

// swappedSums has the lower sum's alarms as the upper one's, and the other way.
func swappedSums(r impl.AlarmsResult) impl.AlarmsResult {
	var pairs []int64
	for _, a := range r.Alarms {
		pairs = append(pairs, a.At, 3-a.Rule)
	}
	out := alarmsAt(pairs...)
	out.Code = r.Code
	return out
}

func TestCusumOfByHand(t *testing.T) {
	for _, c := range []cusumCase{
		{"no list", nil, 0, 1, 5, alarmsAt()},
		{"no number", numbers(), 0, 1, 5, alarmsAt()},
		{"at the centre", make([]int64, 200), 0, 0, 1, alarmsAt()},

		{"a number at just limit", numbers(5), 0, 0, 5, alarmsAt()},
		{"a number one above", numbers(6), 0, 0, 5, alarmsAt(0, 1)},
		{"at just limit and slack", numbers(7), 0, 2, 5, alarmsAt()},
		{"one above limit and slack", numbers(8), 0, 2, 5, alarmsAt(0, 1)},
		{"a sum at just limit", numbers(2, 3), 0, 0, 5, alarmsAt()},
		{"a sum one above", numbers(3, 3), 0, 0, 5, alarmsAt(1, 1)},
		{"a sum at just limit, slack at each place", numbers(3, 4), 0, 1, 5, alarmsAt()},
		{"a sum one above, slack at each place", numbers(4, 4), 0, 1, 5, alarmsAt(1, 1)},
		{"a sum that stays at limit", numbers(5, 0, 0), 0, 0, 5, alarmsAt()},
		{"a sum that comes above it later", numbers(5, 0, 1), 0, 0, 5, alarmsAt(2, 1)},
		{"numbers of just slack add nothing", longer(numbers(3), 200), 0, 3, 1, alarmsAt()},
		{"one above slack each", numbers(4, 4, 4, 4, 4), 0, 3, 2, alarmsAt(2, 1)},
		{"the least limit", numbers(1, 1), 0, 0, 1, alarmsAt(1, 1)},

		{"not below 0", numbers(-9, 4), 0, 0, 3, alarmsAt(0, 2, 1, 1)},
		{"not below 0, for slack alone", numbers(0, 0, 6), 0, 2, 3, alarmsAt(2, 1)},
		{"less, then more", numbers(4, -3, 4, 1), 0, 0, 5, alarmsAt(3, 1)},
		{"less, then just limit", numbers(4, -3, 4, 0), 0, 0, 5, alarmsAt()},
		{"less to 0 and from there", numbers(4, -9, 5), 0, 0, 5, alarmsAt(1, 2)},

		{"begins anew behind an alarm", numbers(6, 5, 1), 0, 0, 5, alarmsAt(0, 1, 2, 1)},
		{"begins anew, just limit", numbers(6, 5), 0, 0, 5, alarmsAt(0, 1)},
		{"an alarm at each place", numbers(6, 6, 6), 0, 0, 5, alarmsAt(0, 1, 1, 1, 2, 1)},
		{"every second place", numbers(4, 4, 4, 4, 4), 0, 0, 5, alarmsAt(1, 1, 3, 1)},
		{"what was too much is gone", numbers(1000, 5, 0), 0, 0, 5, alarmsAt(0, 1)},
		{"where one tells, the other has come to 0", numbers(-3, 9, -3, -2), 0, 0, 5, alarmsAt(1, 1)},
		{"where one tells, the other has come to 0, and goes on", numbers(-3, 9, -3, -3), 0, 0, 5, alarmsAt(1, 1, 3, 2)},

		{"both sums above 0 at one place", numbers(5, -4, 2), 0, 0, 5, alarmsAt()},
		{"both sums, the upper one tells", numbers(5, -4, 5), 0, 0, 5, alarmsAt(2, 1)},
		{"both sums, the lower one tells", numbers(5, -4, -2), 0, 0, 5, alarmsAt(2, 2)},
		{"one tells, then the other", numbers(5, -4, -2, 6), 0, 0, 5, alarmsAt(2, 2, 3, 1)},
		{"slack makes both fall", numbers(5, -4, 0), 0, 1, 3, alarmsAt(0, 1)},

		{"about a centre", numbers(106, 94), 100, 0, 5, alarmsAt(0, 1, 1, 2)},
		{"about a centre, just limit", numbers(105, 100), 100, 0, 5, alarmsAt()},
		{"about a centre below 0", numbers(-94, -106), -100, 0, 5, alarmsAt(0, 1, 1, 2)},

		{"as far as there may be", numbers(mostCharted), -mostCharted, mostCharted, mostCharted - 1, alarmsAt(0, 1)},
		{"as far as there may be, just limit", numbers(mostCharted), -mostCharted, mostCharted, mostCharted, alarmsAt()},
		{"as far as there may be, twice", numbers(mostCharted, mostCharted), -mostCharted, mostCharted, mostCharted, alarmsAt(1, 1)},
		{"as far as there may be, each time", longer(numbers(mostCharted), 3), -mostCharted, 0, mostCharted, alarmsAt(0, 1, 1, 1, 2, 1)},
	} {
		checkCusum(t, c)
		upside := cusumCase{c.name + ", upside down", opposites(c.list), -c.centre, c.slack, c.limit, swappedSums(c.want)}
		checkCusum(t, upside)
	}
}

func TestCusumOfFaults(t *testing.T) {
	list := numbers(9, -9)
	for _, c := range []cusumCase{
		{"the least centre", list, -mostCharted, 0, mostCharted, alarmsAt(0, 1)},
		{"the greatest centre", list, mostCharted, 0, mostCharted, alarmsAt(1, 2)},
		{"centre one below", list, -mostCharted - 1, 0, 1, alarmsCode(impl.ErrRange)},
		{"centre one above", list, mostCharted + 1, 0, 1, alarmsCode(impl.ErrRange)},
		{"slack -1", list, 0, -1, 1, alarmsCode(impl.ErrRange)},
		{"slack 0", list, 0, 0, 20, alarmsAt()},
		{"the greatest slack", list, 0, mostCharted, 1, alarmsAt()},
		{"slack one more", list, 0, mostCharted + 1, 1, alarmsCode(impl.ErrRange)},
		{"limit -1", list, 0, 0, -1, alarmsCode(impl.ErrRange)},
		{"limit 0", list, 0, 0, 0, alarmsCode(impl.ErrRange)},
		{"limit 1", list, 0, 0, 1, alarmsAt(0, 1, 1, 2)},
		{"the greatest limit", list, 0, 0, mostCharted, alarmsAt()},
		{"limit one more", list, 0, 0, mostCharted + 1, alarmsCode(impl.ErrRange)},
		{"no number, limit 0", nil, 0, 0, 0, alarmsCode(impl.ErrRange)},
		{"no number, slack -1", nil, 0, -1, 1, alarmsCode(impl.ErrRange)},
		{"all the least", list, leastInt, leastInt, leastInt, alarmsCode(impl.ErrRange)},
		{"all the greatest", list, greatestInt, greatestInt, greatestInt, alarmsCode(impl.ErrRange)},
	} {
		checkCusum(t, c)
	}
	for _, c := range chartCases() {
		for _, n := range chartEnds() {
			for _, got := range []impl.AlarmsResult{impl.CusumOf(c.list, n, 0, 1), impl.CusumOf(c.list, 0, n, 1), impl.CusumOf(c.list, 0, 0, n)} {
				if c.code != impl.OK && !sameAlarms(got, alarmsCode(c.code)) {
					t.Errorf("%s, %d: %s, want %d", c.name, n, brief(got), c.code)
				}
			}
		}
	}
}

func TestCusumOfAllSmall(t *testing.T) {
	for _, list := range allCharts(6, -3, -1, 0, 1, 2) {
		for slack := range int64(2) {
			for _, limit := range numbers(1, 3) {
				if got, want := impl.CusumOf(list, 0, slack, limit), cusumWant(list, 0, slack, limit); !sameAlarms(got, want) {
					t.Fatalf("%v, %d, %d: %v, want %v", list, slack, limit, got, want)
				}
			}
		}
	}
}

// Some lists, and their beginnings: what is told of one is told of the whole. No place has both alarms.
func TestCusumOfSomeLists(t *testing.T) {
	chance, met := rand.New(rand.NewSource(174)), map[int64]int{}
	for i := range 600 {
		most := numbers(5, 300, mostCharted)[i%3]
		list, centre := someRuns(chance, chance.Intn(201), most), chance.Int63n(most)-most/2
		slack, limit := chance.Int63n(most/2+1), 1+chance.Int63n(min(most*3, mostCharted))
		whole := impl.CusumOf(list, centre, slack, limit)
		checkToldAlarms(t, "some", whole, cusumWant(list, centre, slack, limit))
		for k, a := range whole.Alarms {
			met[a.Rule]++
			if k > 0 && whole.Alarms[k-1].At >= a.At {
				t.Errorf("%s: %v", brief(list), whole)
			}
		}
		for places := 0; places <= len(list); places += 1 + i%5 {
			checkToldAlarms(t, "a beginning", impl.CusumOf(list[:places], centre, slack, limit), alarmsBefore(whole, places))
		}
	}
	if min(met[1], met[2]) < 500 {
		t.Errorf("the sums tell %v", met)
	}
}

// Where one sum tells, the other is 0: both are never above limit together. So all goes on as for a list that begins there.
func TestCusumBeginsAnew(t *testing.T) {
	chance, met := rand.New(rand.NewSource(175)), 0
	for i := range 500 {
		list, slack, limit := someRuns(chance, 1+chance.Intn(100), 20), int64(i%5), 1+chance.Int63n(40)
		whole := impl.CusumOf(list, 0, slack, limit)
		for _, a := range whole.Alarms {
			rest := impl.CusumOf(list[a.At+1:], 0, slack, limit)
			both := alarmsBefore(whole, int(a.At)+1)
			for _, later := range rest.Alarms {
				both.Alarms = append(both.Alarms, impl.Alarm{At: later.At + a.At + 1, Rule: later.Rule})
			}
			checkToldAlarms(t, "behind an alarm", both, whole)
			met++
		}
	}
	if met < 500 {
		t.Errorf("there are %d alarms", met)
	}
}
