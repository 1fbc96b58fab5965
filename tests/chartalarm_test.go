package tests

import (
	"math/rand"
	"slices"
	"testing"

	"loop.example/g00057/impl"
)

// alarmCase is what a chart tells of a list.
type alarmCase struct {
	name          string
	list          []int64
	centre, sigma int64
	want          impl.AlarmsResult
}

// checkAlarmsOf asks for the list, and for the same upside down: no rule has a side that it likes better.
func checkAlarmsOf(t *testing.T, c alarmCase) {
	t.Helper()
	checkToldAlarms(t, c.name, impl.AlarmsOf(c.list, c.centre, c.sigma), c.want)
	checkToldAlarms(t, c.name+", plainly", alarmsWant(c.list, c.centre, c.sigma), c.want)
	checkToldAlarms(t, c.name+", upside down", impl.AlarmsOf(opposites(c.list), -c.centre, c.sigma), c.want)
}

func checkAllAlarms(t *testing.T, cases []alarmCase) {
	t.Helper()
	for _, c := range cases {
		checkAlarmsOf(t, c)
	}
}

func opposites(list []int64) []int64 {
	var out []int64
	for _, n := range list {
		out = append(out, -n)
	}
	return out
}

// summed has the numbers to which these steps lead, from the first on.
func summed(first int64, steps ...int64) []int64 {
	list := numbers(first)
	for _, step := range steps {
		first += step
		list = append(list, first)
	}
	return list
}

func TestAlarmsOfFewNumbers(t *testing.T) {
	checkAllAlarms(t, []alarmCase{
		{"no list", nil, 0, 1, alarmsAt()},
		{"no number", numbers(), 0, 1, alarmsAt()},
		{"one at the centre", numbers(5), 5, 1, alarmsAt()},
		{"the document's", numbers(0, 7, 0, 7, 10), 0, 3, alarmsAt(3, 2, 4, 1, 4, 2)},
		{"the document's, off 0", numbers(-50, -43, -50, -43, -40), -50, 3, alarmsAt(3, 2, 4, 1, 4, 2)},
	})
}

func TestRuleFar(t *testing.T) {
	checkAllAlarms(t, []alarmCase{
		{"just 3 sigma", numbers(30), 0, 10, alarmsAt()},
		{"one beyond", numbers(31), 0, 10, alarmsAt(0, 1)},
		{"just 3 sigma below", numbers(-30), 0, 10, alarmsAt()},
		{"one beyond below", numbers(-31), 0, 10, alarmsAt(0, 1)},
		{"just 3 sigma from a centre", numbers(130), 100, 10, alarmsAt()},
		{"one beyond from a centre", numbers(131), 100, 10, alarmsAt(0, 1)},
		{"just 3 sigma below a centre", numbers(70), 100, 10, alarmsAt()},
		{"one beyond below a centre", numbers(69), 100, 10, alarmsAt(0, 1)},
		{"the least sigma", numbers(3), 0, 1, alarmsAt()},
		{"the least sigma, one beyond", numbers(4), 0, 1, alarmsAt(0, 1)},
		{"the greatest sigma", numbers(300000), 0, 100000, alarmsAt()},
		{"the greatest sigma, one beyond", numbers(300001), 0, 100000, alarmsAt(0, 1)},
		{"each by itself", numbers(31, 0, 0, -31, 0, 0, 31), 0, 10, alarmsAt(0, 1, 3, 1, 6, 1)},
		{"one side, then the other", numbers(31, -31, 31), 0, 10, alarmsAt(0, 1, 1, 1, 2, 1, 2, 2)},
		{"as far as there may be", numbers(mostCharted), -mostCharted, 100000, alarmsAt(0, 1)},
	})
}

func TestRuleTwo(t *testing.T) {
	checkAllAlarms(t, []alarmCase{
		{"one alone", numbers(21), 0, 10, alarmsAt()},
		{"two at the beginning", numbers(21, 21), 0, 10, alarmsAt(1, 2)},
		{"the first at just 2 sigma", numbers(20, 21), 0, 10, alarmsAt()},
		{"the second at just 2 sigma", numbers(21, 20), 0, 10, alarmsAt()},
		{"both at just 2 sigma", numbers(20, 20), 0, 10, alarmsAt()},
		{"one between them", numbers(21, 0, 21), 0, 10, alarmsAt(2, 2)},
		{"two between them", numbers(21, 0, 0, 21), 0, 10, alarmsAt()},
		{"one ahead of them", numbers(0, 21, 21), 0, 10, alarmsAt(2, 2)},
		{"one behind them", numbers(21, 21, 0), 0, 10, alarmsAt(1, 2)},
		{"just 2 sigma behind them", numbers(21, 21, 20), 0, 10, alarmsAt(1, 2)},
		{"three", numbers(21, 21, 21), 0, 10, alarmsAt(1, 2, 2, 2)},
		{"two behind a pair", numbers(21, 21, 0, 0, 21), 0, 10, alarmsAt(1, 2)},
		{"one of each side", numbers(21, -21), 0, 10, alarmsAt()},
		{"one of each side, one between them", numbers(21, 0, -21), 0, 10, alarmsAt()},
		{"two of a side, the last of the other", numbers(21, 21, -21), 0, 10, alarmsAt(1, 2)},
		{"two of a side, the other between them", numbers(21, -21, 21), 0, 10, alarmsAt(2, 2)},
		{"the other first", numbers(-21, 21, 21), 0, 10, alarmsAt(2, 2)},
		{"from side to side", numbers(21, -21, 21, -21), 0, 10, alarmsAt(2, 2, 3, 2)},
		{"a pair of each side", numbers(21, 21, -21, -21), 0, 10, alarmsAt(1, 2, 3, 2)},
		{"beyond 3 sigma counts, too", numbers(31, 21), 0, 10, alarmsAt(0, 1, 1, 2)},
		{"the least sigma", numbers(2, 3, 3), 0, 1, alarmsAt(2, 2)},
		{"from a centre", numbers(121, 100, 121), 100, 10, alarmsAt(2, 2)},
		{"just 2 sigma from a centre", numbers(121, 100, 120), 100, 10, alarmsAt()},
		{"far from 0, not from the centre", numbers(121, 121), 110, 10, alarmsAt()},
	})
}

func TestRuleFour(t *testing.T) {
	checkAllAlarms(t, []alarmCase{
		{"three at the beginning", numbers(11, 11, 11), 0, 10, alarmsAt()},
		{"four at the beginning", numbers(11, 11, 11, 11), 0, 10, alarmsAt(3, 3)},
		{"five at the beginning", numbers(11, 11, 11, 11, 11), 0, 10, alarmsAt(3, 3, 4, 3)},
		{"the first at just 1 sigma", numbers(10, 11, 11, 11), 0, 10, alarmsAt()},
		{"the last at just 1 sigma", numbers(11, 11, 11, 10), 0, 10, alarmsAt()},
		{"all at just 1 sigma", numbers(10, 10, 10, 10), 0, 10, alarmsAt()},
		{"one ahead of them", numbers(0, 11, 11, 11, 11), 0, 10, alarmsAt(4, 3)},
		{"one among them", numbers(11, 0, 11, 11, 11), 0, 10, alarmsAt(4, 3)},
		{"just 1 sigma among them", numbers(11, 11, 11, 10, 11), 0, 10, alarmsAt(4, 3)},
		{"two among them", numbers(11, 0, 11, 0, 11, 11), 0, 10, alarmsAt()},
		{"two together among them", numbers(11, 11, 0, 0, 11, 11), 0, 10, alarmsAt()},
		{"one behind them", numbers(11, 11, 11, 11, 0), 0, 10, alarmsAt(3, 3)},
		{"one behind them, and again", numbers(11, 11, 11, 11, 0, 11), 0, 10, alarmsAt(3, 3, 5, 3)},
		{"two behind them, and again", numbers(11, 11, 11, 11, 0, 0, 11), 0, 10, alarmsAt(3, 3)},
		{"the other side among them", numbers(11, 11, -11, 11, 11), 0, 10, alarmsAt(4, 3)},
		{"the other side last", numbers(11, 11, 11, 11, -11), 0, 10, alarmsAt(3, 3)},
		{"three of a side, one of the other", numbers(11, 11, 11, -11), 0, 10, alarmsAt()},
		{"three of a side, two of the other", numbers(11, -11, 11, -11, 11), 0, 10, alarmsAt()},
		{"from a centre", numbers(-89, -89, -89, -89), -100, 10, alarmsAt(3, 3)},
		{"the least sigma", numbers(2, 2, 2, 2), 0, 1, alarmsAt(3, 3)},
		{"the least sigma, just that", numbers(1, 1, 1, 1), 0, 1, alarmsAt()},
		{"further ones count, too", numbers(11, 31, 11, 20), 0, 10, alarmsAt(1, 1, 3, 3)},
	})
}

func TestRuleSide(t *testing.T) {
	ones := func(n int) []int64 { return longer(numbers(1), n) }
	checkAllAlarms(t, []alarmCase{
		{"seven", ones(7), 0, 10, alarmsAt()},
		{"eight", ones(8), 0, 10, alarmsAt(7, 4)},
		{"nine", ones(9), 0, 10, alarmsAt(7, 4, 8, 4)},
		{"0 ahead of seven", append(numbers(0), ones(7)...), 0, 10, alarmsAt()},
		{"0 ahead of eight", append(numbers(0), ones(8)...), 0, 10, alarmsAt(8, 4)},
		{"0 behind seven", append(ones(7), 0), 0, 10, alarmsAt()},
		{"0 behind eight", append(ones(8), 0), 0, 10, alarmsAt(7, 4)},
		{"0 among eight", slices.Concat(ones(4), numbers(0), ones(3)), 0, 10, alarmsAt()},
		{"0 among many", slices.Concat(ones(7), numbers(0), ones(7)), 0, 10, alarmsAt()},
		{"0 among more", slices.Concat(ones(7), numbers(0), ones(8)), 0, 10, alarmsAt(15, 4)},
		{"the other side among eight", slices.Concat(ones(4), numbers(-1), ones(3)), 0, 10, alarmsAt()},
		{"the other side behind eight", slices.Concat(ones(8), numbers(-1)), 0, 10, alarmsAt(7, 4)},
		{"eight of each side", slices.Concat(ones(8), opposites(ones(8))), 0, 10, alarmsAt(7, 4, 15, 4)},
		{"eight at the centre", longer(numbers(0), 8), 0, 10, alarmsAt()},
		{"above 0, but at the centre", ones(8), 1, 10, alarmsAt()},
		{"above a centre", longer(numbers(6), 8), 5, 10, alarmsAt(7, 4)},
		{"above 0, but below the centre", longer(numbers(4), 8), 5, 10, alarmsAt(7, 4)},
		{"above 0, on both sides of the centre", longer(numbers(4, 6), 8), 5, 10, alarmsAt()},
	})
}

func TestRuleTrend(t *testing.T) {
	checkAllAlarms(t, []alarmCase{
		{"five", numbers(-2, -1, 0, 1, 2), 0, 10, alarmsAt()},
		{"six", numbers(-2, -1, 0, 1, 2, 3), 0, 10, alarmsAt(5, 5)},
		{"seven", numbers(-3, -2, -1, 0, 1, 2, 3), 0, 10, alarmsAt(5, 5, 6, 5)},
		{"the first step is 0", numbers(-2, -2, -1, 0, 1, 2), 0, 10, alarmsAt()},
		{"a step is 0", numbers(-2, -1, 0, 0, 1, 2), 0, 10, alarmsAt()},
		{"the last step is 0", numbers(-2, -1, 0, 1, 2, 2), 0, 10, alarmsAt()},
		{"a step is 0 ahead of six", numbers(-2, -2, -1, 0, 1, 2, 3), 0, 10, alarmsAt(6, 5)},
		{"a step back ahead of six", numbers(-1, -2, -1, 0, 1, 2, 3), 0, 10, alarmsAt(6, 5)},
		{"a step back", numbers(-2, -1, 0, -1, 0, 1), 0, 10, alarmsAt()},
		{"the last step back", numbers(-2, -1, 0, 1, 2, 1), 0, 10, alarmsAt()},
		{"the first step back", numbers(-2, -3, -1, 0, 1, 2), 0, 10, alarmsAt()},
		{"a step back behind six", numbers(-2, -1, 0, 1, 2, 3, 2), 0, 10, alarmsAt(5, 5)},
		{"up five steps, down five", summed(-2, 1, 1, 1, 1, 1, -1, -1, -1, -1, -1), 0, 10, alarmsAt(5, 5, 10, 5)},
		{"steps of all sizes", numbers(-9, -8, -2, -1, 7, 10), 0, 10, alarmsAt(5, 5)},
		{"all noughts", make([]int64, 20), 0, 10, alarmsAt()},
		{"as far as there may be", summed(-999999, 1, 1, 1, 1, mostCharted*2-5), -mostCharted, 100000, alarmsAt(5, 1, 5, 5)},
	})
}

func TestRuleZigzag(t *testing.T) {
	zig := func(n int) []int64 { return longer(numbers(0, 1), n) }
	checkAllAlarms(t, []alarmCase{
		{"13", zig(13), 0, 10, alarmsAt()},
		{"14", zig(14), 0, 10, alarmsAt(13, 6)},
		{"15", zig(15), 0, 10, alarmsAt(13, 6, 14, 6)},
		{"14, from above", zig(15)[1:], 0, 10, alarmsAt(13, 6)},
		{"0 ahead of 13", append(numbers(0), zig(13)...), 0, 10, alarmsAt()},
		{"0 ahead of 14", append(numbers(0), zig(14)...), 0, 10, alarmsAt(14, 6)},
		{"the last step is 0", append(zig(13), 0), 0, 10, alarmsAt()},
		{"the last step is 0, behind 14", append(zig(14), 1), 0, 10, alarmsAt(13, 6)},
		{"a step is 0", slices.Concat(zig(6), zig(9)[1:]), 0, 10, alarmsAt()},
		{"a step the same way ahead of 14", append(numbers(-1), zig(14)...), 0, 10, alarmsAt(14, 6)},
		{"a step the same way", slices.Concat(zig(6), numbers(2), zig(7)), 0, 10, alarmsAt()},
		{"the last step the same way", append(zig(13), -1), 0, 10, alarmsAt()},
		{"the last step the other way, a greater one", append(zig(13), 5), 0, 10, alarmsAt(13, 6)},
		{"two steps the same way last", append(zig(12), 2, 3), 0, 10, alarmsAt()},
		{"steps of all sizes", summed(0, 1, -2, 3, -4, 5, -6, 7, -7, 6, -5, 4, -3, 2), 0, 10, alarmsAt(13, 6)},
		{"going up on the whole", summed(-7, 3, -2, 3, -2, 3, -2, 3, -2, 3, -2, 3, -2, 3), 0, 10, alarmsAt(7, 4, 8, 4, 13, 6)},
		{"all noughts", make([]int64, 20), 0, 10, alarmsAt()},
	})
}

// Several rules at one place stand by their numbers; all six can be met in one list.
func TestSeveralRulesAtOnePlace(t *testing.T) {
	eight := longer(numbers(31), 8)
	checkAllAlarms(t, []alarmCase{
		{"far, two, four and side", eight, 0, 10, alarmsAt(0, 1, 1, 1, 1, 2, 2, 1, 2, 2, 3, 1, 3, 2, 3, 3, 4, 1, 4, 2, 4, 3,
			5, 1, 5, 2, 5, 3, 6, 1, 6, 2, 6, 3, 7, 1, 7, 2, 7, 3, 7, 4)},
		{"far, two, four, side and trend", numbers(11, 12, 13, 14, 15, 16, 21, 31), 0, 10, alarmsAt(3, 3, 4, 3, 5, 3, 5, 5, 6, 3, 6, 5,
			7, 1, 7, 2, 7, 3, 7, 4, 7, 5)},
		{"four, side and zigzag", longer(numbers(11, 12), 14), 0, 10, alarmsAt(3, 3, 4, 3, 5, 3, 6, 3, 7, 3, 7, 4, 8, 3, 8, 4, 9, 3, 9, 4,
			10, 3, 10, 4, 11, 3, 11, 4, 12, 3, 12, 4, 13, 3, 13, 4, 13, 6)},
	})
}

func TestAlarmsOfFaults(t *testing.T) {
	list := numbers(0, 0)
	for _, c := range []alarmCase{
		{"the least centre", list, -mostCharted, 1, alarmsAt(0, 1, 1, 1, 1, 2)},
		{"the greatest centre", list, mostCharted, 1, alarmsAt(0, 1, 1, 1, 1, 2)},
		{"centre one below", list, -mostCharted - 1, 1, alarmsCode(impl.ErrRange)},
		{"centre one above", list, mostCharted + 1, 1, alarmsCode(impl.ErrRange)},
		{"sigma -1", list, 0, -1, alarmsCode(impl.ErrRange)},
		{"sigma 0", list, 0, 0, alarmsCode(impl.ErrRange)},
		{"sigma 1", list, 0, 1, alarmsAt()},
		{"the greatest sigma", list, 0, 100000, alarmsAt()},
		{"sigma one more", list, 0, 100001, alarmsCode(impl.ErrRange)},
		{"no number, sigma 0", nil, 0, 0, alarmsCode(impl.ErrRange)},
		{"no number, centre one above", nil, mostCharted + 1, 1, alarmsCode(impl.ErrRange)},
		{"all the least", list, leastInt, leastInt, alarmsCode(impl.ErrRange)},
		{"all the greatest", list, greatestInt, greatestInt, alarmsCode(impl.ErrRange)},
	} {
		checkToldAlarms(t, c.name, impl.AlarmsOf(c.list, c.centre, c.sigma), c.want)
		checkToldAlarms(t, c.name+", plainly", alarmsWant(c.list, c.centre, c.sigma), c.want)
	}
	for _, c := range chartCases() {
		for _, centre := range chartEnds() {
			for _, sigma := range numbers(0, 1, 100000, 100001, leastInt, greatestInt) {
				got := impl.AlarmsOf(c.list, centre, sigma)
				if c.code != impl.OK && !sameAlarms(got, alarmsCode(c.code)) {
					t.Errorf("%s: %s, want %d", c.name, brief(got), c.code)
				}
				if len(c.list) < 10 {
					checkToldAlarms(t, c.name, got, alarmsWant(c.list, centre, sigma))
				}
			}
		}
	}
}

// All lists of five numbers that lie just at a border or one beyond it, on both sides.
func TestAlarmsOfAllBorders(t *testing.T) {
	for _, list := range allCharts(5, -4, -3, -2, -1, 0, 1, 2, 3, 4) {
		if got, want := impl.AlarmsOf(list, 0, 1), alarmsWant(list, 0, 1); !sameAlarms(got, want) {
			t.Fatalf("%v: %v, want %v", list, got, want)
		}
	}
}

func TestAlarmsOfAllSides(t *testing.T) {
	for _, list := range allCharts(9, -1, 0, 1) {
		if got, want := impl.AlarmsOf(list, 0, 1), alarmsWant(list, 0, 1); !sameAlarms(got, want) {
			t.Fatalf("%v: %v, want %v", list, got, want)
		}
	}
}

func TestAlarmsOfAllSteps(t *testing.T) {
	for _, steps := range allCharts(8, -1, 0, 1) {
		list := summed(100, steps...)
		if got, want := impl.AlarmsOf(list, 100, 3), alarmsWant(list, 100, 3); !sameAlarms(got, want) {
			t.Fatalf("%v: %v, want %v", list, got, want)
		}
	}
}

// Steps that go to and fro, any two of them another way or none.
func TestAlarmsOfSpoiledZigzags(t *testing.T) {
	for i := range 17 {
		for j := range 17 {
			for _, pair := range allCharts(2, -1, 0, 1) {
				steps := longer(numbers(2, -2), 17)
				steps[i], steps[j] = pair[0]*steps[i], pair[1]*steps[j]
				list := summed(0, steps...)
				if got, want := impl.AlarmsOf(list, 0, 7), alarmsWant(list, 0, 7); !sameAlarms(got, want) {
					t.Fatalf("%v: %v, want %v", list, got, want)
				}
			}
		}
	}
}

func TestAlarmsOfSomeLists(t *testing.T) {
	chance, met := rand.New(rand.NewSource(171)), map[int64]int{}
	for i := range 1500 {
		most := numbers(4, 40, 4000, mostCharted)[i%4]
		list, centre, sigma := someRuns(chance, chance.Intn(201), most), chance.Int63n(most/2+1)-most/4, 1+chance.Int63n(min(most/2, 100000))
		want := alarmsWant(list, centre, sigma)
		checkToldAlarms(t, "some", impl.AlarmsOf(list, centre, sigma), want)
		for _, a := range want.Alarms {
			met[a.Rule]++
		}
	}
	for rule := int64(1); rule <= 6; rule++ {
		if met[rule] < 500 {
			t.Errorf("the rules are met %v", met)
		}
	}
}

// alarmsBefore are those of an answer at the places below so many.
func alarmsBefore(r impl.AlarmsResult, places int) impl.AlarmsResult {
	r.Alarms = slices.DeleteFunc(slices.Clone(r.Alarms), func(a impl.Alarm) bool { return a.At >= int64(places) })
	return r
}

// What is told of a beginning is told of the whole.
func TestAlarmsOfABeginning(t *testing.T) {
	chance := rand.New(rand.NewSource(172))
	for i := range 60 {
		most := numbers(4, 40, mostCharted)[i%3]
		list, sigma := someRuns(chance, 1+chance.Intn(200), most), 1+chance.Int63n(min(most/2, 100000))
		whole := impl.AlarmsOf(list, 0, sigma)
		for places := range len(list) + 1 {
			checkToldAlarms(t, "a beginning", impl.AlarmsOf(list[:places], 0, sigma), alarmsBefore(whole, places))
		}
	}
}

// A chart that is moved, or is seen upside down, tells the same.
func TestAlarmsHangOnTheDistanceAlone(t *testing.T) {
	chance := rand.New(rand.NewSource(173))
	for range 300 {
		list, sigma, by := someRuns(chance, 1+chance.Intn(200), 50), 1+chance.Int63n(20), chance.Int63n(1000)-500
		var moved []int64
		for _, n := range list {
			moved = append(moved, n+by)
		}
		want := impl.AlarmsOf(list, 0, sigma)
		checkToldAlarms(t, "moved", impl.AlarmsOf(moved, by, sigma), want)
		checkToldAlarms(t, "upside down", impl.AlarmsOf(opposites(moved), -by, sigma), want)
	}
}
