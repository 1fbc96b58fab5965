package tests

import (
	"math/rand"
	"slices"
	"testing"

	"loop.example/g00057/impl"
)

func checkHaulsEnd(t *testing.T, what string, c impl.Cluster, list []impl.Haul, want impl.ShapeInt) {
	t.Helper()
	checkValue(t, what, impl.EndOf(c, list), want)
	checkValue(t, what+", by the plain reckoning", haulsEndWant(c, list), want)
}

func checkLeastEnd(t *testing.T, what string, c impl.Cluster, wafers int64, want impl.ShapeInt) {
	t.Helper()
	checkValue(t, what, impl.LeastEnd(c, wafers), want)
	checkValue(t, what+", by the plain reckoning", leastEndWant(c, wafers), want)
}

func TestEndOfByHand(t *testing.T) {
	c := plainCluster()
	at := func(list ...int64) []impl.Haul {
		var all []impl.Haul
		for _, n := range list {
			all = append(all, haul(n, 0, 0, 1))
		}
		return all
	}
	for _, k := range []struct {
		name string
		list []impl.Haul
		want impl.ShapeInt
	}{
		{"none", nil, value(0)},
		{"an empty list", []impl.Haul{}, value(0)},
		{"one at 0", at(0), value(1)},
		{"as they are made", twoHauled(), value(24)},
		{"the greatest is the first", at(9, 3, 5), value(10)},
		{"the greatest is in the middle", at(3, 9, 5), value(10)},
		{"the greatest twice", at(9, 9), value(10)},
		{"at 10^9", at(latest, 0), value(latest + 1)},
		{"beyond it", at(0, latest+1), valueCode(impl.ErrRange)},
		{"at -1", at(0, 5, -1), valueCode(impl.ErrRange)},
		{"at the least time", at(leastInt), valueCode(impl.ErrRange)},
		{"at the greatest time", at(greatestInt), valueCode(impl.ErrRange)},
		{"what keeps no rule", hauls(7, -5, greatestInt, leastInt, 3, 99, 9, 9), value(8)},
		{"199", manyHauls(199), value(199)},
		{"200", manyHauls(200), value(200)},
		{"201", manyHauls(201), valueCode(impl.ErrMany)},
		{"far too many", manyHauls(10000), valueCode(impl.ErrMany)},
		{"201, one beyond", append(at(-1), manyHauls(200)...), valueCode(impl.ErrMany)},
		{"200, the last beyond", append(manyHauls(199), at(-1)...), valueCode(impl.ErrRange)},
	} {
		checkHaulsEnd(t, k.name, c, k.list, k.want)
	}
	checkHaulsEnd(t, "Move of 100", cluster(100, numbers(1), 1), at(latest), value(latest+100))
	checkHaulsEnd(t, "Move of 100, none", cluster(100, numbers(1), 1), nil, value(0))
	for _, n := range clusterEnds() {
		want := value(n + 1)
		if n < 0 || n > latest {
			want = valueCode(impl.ErrRange)
		}
		checkHaulsEnd(t, "at an end", c, at(n), want)
	}
}

func TestLeastEndByHand(t *testing.T) {
	for _, k := range []struct {
		name    string
		cluster impl.Cluster
		wafers  int64
		want    int64
	}{
		{"no wafers", plainCluster(), 0, 0},
		{"one wafer: its way", plainCluster(), 1, 15},
		{"two wafers: the second chamber", plainCluster(), 2, 16},
		{"three wafers: the second chamber", plainCluster(), 3, 23},
		{"MaxWafers: the second chamber", plainCluster(), 12, 86},
		{"the first chamber", cluster(3, numbers(40, 7), 1, 2), 5, 206},
		{"the robot", cluster(10, numbers(5, 7), 1, 2), 4, 120},
		{"the robot, just", cluster(4, numbers(5, 7), 1, 2), 3, 36},
		{"its way, of two wafers", cluster(1, numbers(9, 9, 9), 1, 2, 3), 2, 31},
		{"its way and the robot alike", cluster(6, numbers(9, 9), 1, 2), 2, 36},
		{"a chamber that comes twice", cluster(1, numbers(4, 5), 1, 2, 1), 3, 26},
		{"a chamber that comes four times", cluster(1, numbers(3, 1), 1, 2, 1, 2, 1, 2, 1), 2, 26},
		{"its way through a chamber that comes twice", cluster(1, numbers(4, 5), 1, 2, 1), 1, 17},
		{"a chamber that is not in Route", cluster(1, numbers(4, 1000), 1), 3, 14},
		{"as much as there may be", cluster(100, longer(numbers(1000), 6), 1, 2, 1, 2, 1, 2, 1, 2), 12, 48200},
	} {
		checkLeastEnd(t, k.name, k.cluster, k.wafers, value(k.want))
	}
	for _, wafers := range clusterEnds() {
		if wafers < 0 || wafers > 12 {
			checkLeastEnd(t, "beyond", plainCluster(), wafers, valueCode(impl.ErrRange))
		} else {
			checkLeastEnd(t, "within", plainCluster(), wafers, leastEndWant(plainCluster(), wafers))
		}
	}
}

func TestLeastEndOfAllSmall(t *testing.T) {
	for _, c := range smallClusters(4) {
		for wafers := int64(-1); wafers <= 14; wafers++ {
			checkLeastEnd(t, brief(c), c, wafers, leastEndWant(c, wafers))
		}
	}
}

// Each of the three numbers is the greatest now and then.
func TestSomeLeastEnds(t *testing.T) {
	chance := rand.New(rand.NewSource(227))
	var most [3]int
	for range 2000 {
		c, wafers := someCluster(chance), 1+chance.Int63n(12)
		want := leastEndWant(c, wafers)
		checkLeastEnd(t, brief(c), c, wafers, want)
		steps := int64(len(c.Route) + 1)
		alone, robot := steps*c.Move, wafers*steps*c.Move
		for _, place := range c.Route {
			alone += c.Times[place-1]
		}
		for i, is := range []bool{want.Value > robot && want.Value > alone, want.Value == robot && robot > alone, want.Value == alone && alone > robot} {
			most[i] += int(bit(is))
		}
	}
	if slices.Min(most[:]) < 50 {
		t.Errorf("chambers, the robot and the way are so often the greatest: %v", most)
	}
}

// Whoever goes, and however soon: what keeps the rules ends no sooner.
func TestNoScheduleEndsSooner(t *testing.T) {
	chance := rand.New(rand.NewSource(228))
	met, ended := 0, 0
	for range 3000 {
		c, wafers := someCluster(chance), chance.Int63n(6)
		list := someHauls(chance, c, wafers, 1)
		if !impl.CheckSchedule(c, wafers, list) {
			continue
		}
		end, least := haulsEndWant(c, list), impl.LeastEnd(c, wafers)
		checkHaulsEnd(t, "whoever goes", c, list, end)
		if end.Value < least.Value {
			t.Errorf("%d wafers in %v end at %d, at the least at %d: %v", wafers, c, end.Value, least.Value, list)
		}
		met++
		ended += int(bit(wafers > 0 && end == least))
	}
	if met < 300 || ended < 50 {
		t.Errorf("%d are kept, %d end as soon as can be", met, ended)
	}
}
