package tests

import (
	"math/rand"
	"slices"
	"testing"

	"loop.example/g00057/impl"
)

// scheduleCase is a cluster with so many wafers, and what is made of them.
type scheduleCase struct {
	name    string
	cluster impl.Cluster
	wafers  int64
	want    impl.HaulsResult
}

// queueCases: who goes first.
func queueCases() []scheduleCase {
	return []scheduleCase{
		{"no wafers", plainCluster(), 0, haulsOf()},
		{"one wafer", plainCluster(), 1, haulsOf(0, 0, 0, 1, 6, 0, 1, 2, 14, 0, 2, 3)},
		{"two wafers", plainCluster(), 2, haulsOf(0, 0, 0, 1, 6, 0, 1, 2, 7, 1, 0, 1, 14, 0, 2, 3, 15, 1, 1, 2, 23, 1, 2, 3)},
		{"one chamber", cluster(4, numbers(2), 1), 3, haulsOf(0, 0, 0, 1, 6, 0, 1, 2, 10, 1, 0, 1, 16, 1, 1, 2, 20, 2, 0, 1, 26, 2, 1, 2)},
		{"one chamber of two", cluster(2, numbers(1, 9), 1), 1, haulsOf(0, 0, 0, 1, 3, 0, 1, 3)},
		// At 46 and at 55 the time of two is over, or there is none, while the robot is busy: who has come further goes ahead of the third.
		{"ready behind a haul", cluster(9, numbers(1, 1, 1), 1, 2, 3), 3, haulsOf(
			0, 0, 0, 1, 10, 0, 1, 2, 19, 1, 0, 1, 28, 0, 2, 3, 37, 1, 1, 2, 46, 0, 3, 4, 55, 1, 2, 3, 64, 2, 0, 1, 73, 1, 3, 4, 82, 2, 1, 2, 92, 2, 2, 3, 102, 2, 3, 4)},
		// At 13 the times of both are over, and the robot has waited for it.
		{"ready at one time", cluster(1, numbers(5, 2, 3), 1, 2, 3), 2, haulsOf(
			0, 0, 0, 1, 6, 0, 1, 2, 7, 1, 0, 1, 9, 0, 2, 3, 13, 0, 3, 4, 14, 1, 1, 2, 17, 1, 2, 3, 21, 1, 3, 4)},
		// The one of the lower number has come further in each case; of those in the port the lower one goes.
		{"the port in is left in order", cluster(1, numbers(20, 20, 20), 1, 2, 3), 3, haulsOf(
			0, 0, 0, 1, 21, 0, 1, 2, 22, 1, 0, 1, 42, 0, 2, 3, 43, 1, 1, 2, 44, 2, 0, 1, 63, 0, 3, 4, 64, 1, 2, 3, 65, 2, 1, 2, 85, 1, 3, 4, 86, 2, 2, 3, 107, 2, 3, 4)},
		// Further along Route is not further among the chambers.
		{"from chamber 2 to chamber 1", cluster(9, numbers(1, 1), 2, 1), 2, haulsOf(
			0, 0, 0, 2, 10, 0, 2, 1, 19, 1, 0, 2, 28, 0, 1, 3, 37, 1, 2, 1, 47, 1, 1, 3)},
		// A wafer that can go sooner goes, though another has come further.
		{"sooner is ahead of further", cluster(1, numbers(2, 50), 1, 2), 2, haulsOf(
			0, 0, 0, 1, 3, 0, 1, 2, 4, 1, 0, 1, 54, 0, 2, 3, 55, 1, 1, 2, 106, 1, 2, 3)},
	}
}

// twiceCases have chambers that come twice.
func twiceCases() []scheduleCase {
	through := cluster(1, numbers(2, 3), 1, 2, 1)
	around := cluster(1, numbers(2, 2, 20), 1, 2, 3, 1)
	return []scheduleCase{
		{"there and back, none", through, 0, haulsOf()},
		{"there and back, one", through, 1, haulsOf(0, 0, 0, 1, 3, 0, 1, 2, 7, 0, 2, 1, 10, 0, 1, 3)},
		{"there and back, two", through, 2, haulsCode(impl.ErrTaken)},
		{"there and back, three", through, 3, haulsCode(impl.ErrTaken)},
		{"there and back, twelve", through, 12, haulsCode(impl.ErrTaken)},
		{"there and back, thirteen", through, 13, haulsCode(impl.ErrRange)},
		{"around, one", around, 1, haulsOf(0, 0, 0, 1, 3, 0, 1, 2, 6, 0, 2, 3, 27, 0, 3, 1, 30, 0, 1, 4)},
		{"around, two", around, 2, haulsOf(
			0, 0, 0, 1, 3, 0, 1, 2, 4, 1, 0, 1, 6, 0, 2, 3, 7, 1, 1, 2, 27, 0, 3, 1, 28, 1, 2, 3, 30, 0, 1, 4, 49, 1, 3, 1, 52, 1, 1, 4)},
		{"around, three", around, 3, haulsCode(impl.ErrTaken)},
		// The third place is left so soon that the first wafer is back ahead of the third one.
		{"around and soon, three", cluster(5, numbers(2, 2, 1), 1, 2, 3, 1), 3, haulsOf(
			0, 0, 0, 1, 7, 0, 1, 2, 12, 1, 0, 1, 17, 0, 2, 3, 22, 1, 1, 2, 27, 0, 3, 1, 32, 1, 2, 3, 37, 0, 1, 4, 42, 1, 3, 1, 49, 1, 1, 4, 54, 2, 0, 1, 61, 2, 1, 2, 68, 2, 2, 3, 74, 2, 3, 1, 81, 2, 1, 4)},
	}
}

func TestMakeScheduleByHand(t *testing.T) {
	for _, cases := range [][]scheduleCase{queueCases(), twiceCases()} {
		for _, c := range cases {
			checkMadeHauls(t, c.name, c.cluster, c.wafers, c.want)
		}
	}
}

func TestMakeScheduleAtEveryEnd(t *testing.T) {
	for _, wafers := range clusterEnds() {
		got := impl.MakeSchedule(plainCluster(), wafers)
		if wafers < 0 || wafers > 12 {
			checkMadeHauls(t, "wafers beyond", plainCluster(), wafers, haulsCode(impl.ErrRange))
		} else if got.Code != impl.OK || len(got.Hauls) != int(wafers)*3 {
			t.Errorf("%d wafers: %v", wafers, got)
		}
	}
	for _, c := range []impl.Cluster{cluster(100, longer(numbers(1000), 6), 1, 2, 3, 4, 5, 6), cluster(1, longer(numbers(1), 6), 6, 5, 4, 3, 2, 1), cluster(100, numbers(1, 1000), 2)} {
		checkMadeHauls(t, "MaxWafers", c, 12, scheduleWant(c, 12))
		checkMadeHauls(t, "one more", c, 13, haulsCode(impl.ErrRange))
		checkMadeHauls(t, "one fewer than none", c, -1, haulsCode(impl.ErrRange))
	}
}

func TestMakeScheduleOfAllSmall(t *testing.T) {
	locked := 0
	for _, c := range smallClusters(4) {
		for wafers := range int64(5) {
			want := scheduleWant(c, wafers)
			checkMadeHauls(t, brief(c), c, wafers, want)
			locked += int(bit(want.Code == impl.ErrTaken))
		}
	}
	if locked < 50 {
		t.Errorf("%d are locked", locked)
	}
}

// Where no chamber comes twice, and where there is one wafer, nothing is locked.
func TestSomeSchedules(t *testing.T) {
	chance := rand.New(rand.NewSource(222))
	locked, back := 0, 0
	for range 1500 {
		c, wafers := someCluster(chance), chance.Int63n(numbers(4, 13)[chance.Intn(2)])
		want := scheduleWant(c, wafers)
		checkMadeHauls(t, brief(c), c, wafers, want)
		if want.Code == impl.ErrTaken {
			locked++
			if !comesTwice(c) || wafers < 2 {
				t.Errorf("%d wafers are locked in %v", wafers, c)
			}
			continue
		}
		back += int(bit(comesTwice(c) && wafers > 1))
		if want.Code != impl.OK || len(want.Hauls) != int(wafers)*(len(c.Route)+1) {
			t.Errorf("%d wafers of %v: %v", wafers, c, want)
		}
	}
	if locked < 50 || back < 50 {
		t.Errorf("%d are locked, %d come back and are not", locked, back)
	}
}

// A schedule that is made keeps each rule: these are asked of it one by one.
func TestMadeSchedulesKeepTheRules(t *testing.T) {
	chance := rand.New(rand.NewSource(223))
	for range 600 {
		c, wafers := someCluster(chance), chance.Int63n(13)
		made := impl.MakeSchedule(c, wafers).Hauls
		free, since, in := int64(0), map[int64]int64{}, map[int64]int64{}
		places := map[int64][]int64{}
		for _, h := range made {
			if h.At < free {
				t.Fatalf("the robot of %v does two at a time: %v", c, h)
			}
			if h.At < since[h.Wafer]+stayWant(c, h.From) {
				t.Fatalf("%v of %v comes too soon", h, c)
			}
			in[h.From], in[h.To] = in[h.From]-1, in[h.To]+1
			if in[h.To] > 1 && h.To <= int64(len(c.Times)) {
				t.Fatalf("%v of %v comes to a chamber that is taken", h, c)
			}
			free, since[h.Wafer] = h.At+c.Move, h.At+c.Move
			places[h.Wafer] = append(places[h.Wafer], h.From, h.To)
		}
		way := wayWant(c)
		for wafer, list := range places {
			if !slices.Equal(slices.Compact(list), way) || wafer < 0 || wafer >= wafers {
				t.Fatalf("wafer %d of %v goes %v", wafer, c, list)
			}
		}
	}
}

// Which numbers the chambers have does not matter, nor how long a tick is.
func TestSchedulesOfRenamedAndSlowedClusters(t *testing.T) {
	chance := rand.New(rand.NewSource(224))
	for range 300 {
		c, wafers := someCluster(chance), chance.Int63n(13)
		made := impl.MakeSchedule(c, wafers)
		names := numbers(0)
		for _, at := range chance.Perm(len(c.Times)) {
			names = append(names, int64(at+1))
		}
		names = append(names, int64(len(names)))
		slow := 1 + chance.Int63n(min(1000/slices.Max(c.Times), 100/c.Move))
		turned := impl.Cluster{Times: make([]int64, len(c.Times)), Move: c.Move * slow}
		for i, time := range c.Times {
			turned.Times[names[i+1]-1] = time * slow
		}
		for _, place := range c.Route {
			turned.Route = append(turned.Route, names[place])
		}
		want := impl.HaulsResult{Code: made.Code}
		for _, h := range made.Hauls {
			want.Hauls = append(want.Hauls, haul(h.At*slow, h.Wafer, names[h.From], names[h.To]))
		}
		checkHauls(t, brief(c), impl.MakeSchedule(turned, wafers), want)
	}
}
