package tests

import (
	"math/rand"
	"slices"
	"testing"

	"loop.example/g00057/impl"
)

// twoHauled is what is made of two wafers in plainCluster.
func twoHauled() []impl.Haul {
	return hauls(0, 0, 0, 1, 6, 0, 1, 2, 7, 1, 0, 1, 14, 0, 2, 3, 15, 1, 1, 2, 23, 1, 2, 3)
}

// turnedHaul is twoHauled with one haul turned.
func turnedHaul(i int, turn func(h *impl.Haul)) []impl.Haul {
	list := twoHauled()
	turn(&list[i])
	return list
}

// shifted are hauls that are all so much later.
func shifted(list []impl.Haul, by int64) []impl.Haul {
	list = slices.Clone(list)
	for i := range list {
		list[i].At += by
	}
	return list
}

func TestCheckScheduleWithOneHaulTurned(t *testing.T) {
	c := plainCluster()
	checkKept(t, "as it is made", c, 2, twoHauled(), true)
	// The third and the last haul may come later: nothing comes too soon behind them.
	later := []bool{false, false, true, false, false, true}
	for i, h := range twoHauled() {
		checkKept(t, "sooner", c, 2, turnedHaul(i, func(h *impl.Haul) { h.At-- }), false)
		checkKept(t, "later", c, 2, turnedHaul(i, func(h *impl.Haul) { h.At++ }), later[i])
		checkKept(t, "left out", c, 2, slices.Delete(twoHauled(), i, i+1), false)
		checkKept(t, "put twice", c, 2, slices.Insert(twoHauled(), i, h), false)
		checkKept(t, "put twice, and later", c, 2, append(shifted(twoHauled()[i:i+1], 100), twoHauled()...), false)
		checkKept(t, "once more at the end", c, 2, append(twoHauled(), shifted(twoHauled()[i:i+1], 100)...), false)
		checkKept(t, "cut off ahead of it", c, 2, twoHauled()[:i], false)
		checkKept(t, "of the other wafer", c, 2, turnedHaul(i, func(h *impl.Haul) { h.Wafer = 1 - h.Wafer }), false)
		for _, n := range append(clusterEnds(), 4) {
			checkKept(t, "of any wafer", c, 2, turnedHaul(i, func(h *impl.Haul) { h.Wafer = n }), n == h.Wafer)
			checkKept(t, "from anywhere", c, 2, turnedHaul(i, func(h *impl.Haul) { h.From = n }), n == h.From)
			checkKept(t, "to anywhere", c, 2, turnedHaul(i, func(h *impl.Haul) { h.To = n }), n == h.To)
			turned := turnedHaul(i, func(h *impl.Haul) { h.At = n })
			checkKept(t, "at any time", c, 2, turned, n == h.At || i == 2 && n > 7 && n <= 9 || i == 5 && n > 23 && n <= latest)
		}
		for j := range i {
			list := twoHauled()
			list[i], list[j] = list[j], list[i]
			checkKept(t, "in another order", c, 2, list, false)
			list[i].At, list[j].At = list[j].At, list[i].At
			checkKept(t, "in another order, at the same times", c, 2, list, false)
		}
	}
}

// keptCase is a list of hauls, and whether it keeps the rules.
type keptCase struct {
	name    string
	cluster impl.Cluster
	wafers  int64
	list    []impl.Haul
	want    bool
}

func keptCases() []keptCase {
	c, through := plainCluster(), cluster(1, numbers(2, 3), 1, 2, 1)
	other := hauls(0, 1, 0, 1, 6, 1, 1, 2, 7, 0, 0, 1, 14, 1, 2, 3, 15, 0, 1, 2, 23, 0, 2, 3)
	one := hauls(0, 0, 0, 1, 6, 0, 1, 2, 14, 0, 2, 3)
	return []keptCase{
		{"no wafers, no hauls", c, 0, nil, true},
		{"no wafers, an empty list", c, 0, []impl.Haul{}, true},
		{"no wafers, a haul", c, 0, one[:1], false},
		{"one wafer, no hauls", c, 1, nil, false},
		{"one wafer", c, 1, one, true},
		{"one of two wafers", c, 2, one, false},
		{"two wafers of one", c, 1, twoHauled(), false},
		{"two wafers of three", c, 3, twoHauled(), false},
		{"the second wafer first", c, 2, other, true},
		{"all as late as can be", c, 2, shifted(twoHauled(), latest-23), true},
		{"one later", c, 2, shifted(twoHauled(), latest-22), false},
		{"all one sooner than 0", c, 2, shifted(twoHauled(), -1), false},
		{"at the greatest times", c, 2, shifted(twoHauled(), greatestInt-23), false},
		{"at the least times", c, 2, shifted(twoHauled(), leastInt), false},
		{"the first at the greatest time", c, 1, hauls(greatestInt, 0, 0, 1, leastInt, 0, 1, 2, leastInt+9, 0, 2, 3), false},
		{"one after the other", c, 2, append(slices.Clone(one), hauls(15, 1, 0, 1, 21, 1, 1, 2, 29, 1, 2, 3)...), true},
		{"the robot is not free", c, 2, append(slices.Clone(one), hauls(14, 1, 0, 1, 21, 1, 1, 2, 29, 1, 2, 3)...), false},
		{"the chamber is taken", c, 2, hauls(0, 0, 0, 1, 1, 1, 0, 1, 7, 0, 1, 2, 15, 0, 2, 3, 16, 1, 1, 2, 24, 1, 2, 3), false},
		{"the chamber is still taken", c, 2, hauls(0, 0, 0, 1, 6, 0, 1, 2, 7, 1, 0, 1, 13, 1, 1, 2, 14, 0, 2, 3, 21, 1, 2, 3), false},
		{"a chamber is left out", c, 1, hauls(0, 0, 0, 2, 8, 0, 2, 3), false},
		{"the other way round", c, 1, hauls(0, 0, 0, 2, 8, 0, 2, 1, 14, 0, 1, 3), false},
		{"out at once", c, 1, hauls(0, 0, 0, 3), false},
		{"back from the port out", c, 1, append(slices.Clone(one), haul(15, 0, 3, 0)), false},
		{"beyond the port out", c, 1, append(slices.Clone(one), haul(15, 0, 3, 4)), false},
		{"there and back, one by one", through, 2, hauls(0, 0, 0, 1, 3, 0, 1, 2, 7, 0, 2, 1, 10, 0, 1, 3, 11, 1, 0, 1, 14, 1, 1, 2, 18, 1, 2, 1, 21, 1, 1, 3), true},
		{"there and back, the second while the first is back", through, 2, hauls(0, 0, 0, 1, 3, 0, 1, 2, 7, 0, 2, 1, 9, 1, 0, 1, 10, 0, 1, 3, 14, 1, 1, 2, 18, 1, 2, 1, 21, 1, 1, 3), false},
		{"there and back, locked", through, 2, hauls(0, 0, 0, 1, 3, 0, 1, 2, 4, 1, 0, 1), false},
		{"straight out of the first chamber of two visits", through, 1, hauls(0, 0, 0, 1, 3, 0, 1, 3), false},
	}
}

func TestCheckScheduleByHand(t *testing.T) {
	for _, c := range keptCases() {
		checkKept(t, c.name, c.cluster, c.wafers, c.list, c.want)
	}
}

func TestCheckScheduleOfFaults(t *testing.T) {
	for _, wafers := range clusterEnds() {
		checkKept(t, "so many wafers", plainCluster(), wafers, twoHauled(), wafers == 2)
		checkKept(t, "so many wafers, no hauls", plainCluster(), wafers, nil, wafers == 0)
	}
	// The hauls of a thirteenth wafer are right, but there may be no more than twelve.
	list := impl.MakeSchedule(plainCluster(), 12).Hauls
	checkKept(t, "twelve", plainCluster(), 12, list, true)
	end := list[len(list)-1].At + 1
	checkKept(t, "thirteen", plainCluster(), 13, append(list, hauls(end, 12, 0, 1, end+6, 12, 1, 2, end+14, 12, 2, 3)...), false)
	for _, c := range []impl.Cluster{
		{},
		cluster(0, numbers(5, 7), 1, 2),
		cluster(101, numbers(5, 7), 1, 2),
		cluster(1, numbers(5, 0), 1, 2),
		cluster(1, numbers(5, 7, 1001), 1, 2),
		cluster(1, numbers(5, 7), 1, 2, 2),
		cluster(1, numbers(5, 7), 1, 3),
	} {
		checkKept(t, "a cluster with a fault", c, 0, nil, false)
		checkKept(t, "a cluster with a fault", c, 1, hauls(0, 0, 0, 1, 6, 0, 1, 2, 14, 0, 2, 3), false)
		checkKept(t, "a cluster with a fault", c, 2, twoHauled(), false)
	}
}

// All lists of up to four hauls of two wafers in one chamber, at short times.
func TestCheckScheduleOfAllSmall(t *testing.T) {
	c, all := cluster(1, numbers(1), 1), []impl.Haul{}
	for number := range int64(2 * 2 * 7) {
		all = append(all, haul(number/4, number/2%2, number%2, number%2+1))
	}
	kept := map[int64]int{}
	lists := [][]impl.Haul{nil}
	for length := range 4 {
		var grown [][]impl.Haul
		for _, list := range lists {
			for _, h := range all {
				// Behind what is not in order of time nothing can be right; of this there is enough in lists of three.
				if length < 3 || h.At > list[2].At {
					grown = append(grown, append(slices.Clone(list), h))
				}
			}
		}
		for _, list := range grown {
			for wafers := range int64(3) {
				want := keptWant(c, wafers, list)
				checkKept(t, "small", c, wafers, list, want)
				kept[wafers] += int(bit(want))
			}
		}
		lists = grown
	}
	// One wafer comes in at 0 to 4 and goes on 2 later or more; two of them have seven ticks for 0, 2, 3, 5.
	if kept[0] != 0 || kept[1] != 15 || kept[2] != 10 {
		t.Errorf("so many lists are kept: %v", kept)
	}
}

// turnedHauls have one thing turned, wherever it stands; it may be right nonetheless.
func turnedHauls(chance *rand.Rand, list []impl.Haul) []impl.Haul {
	if len(list) == 0 {
		return hauls(0, 0, 0, 1)
	}
	list, ends := slices.Clone(list), clusterEnds()
	end := ends[chance.Intn(len(ends))]
	i, j := chance.Intn(len(list)), chance.Intn(len(list))
	switch h := &list[i]; chance.Intn(10) {
	case 0:
		h.At += 1 - 2*chance.Int63n(2)
	case 1:
		h.At += chance.Int63n(21) - 10
	case 2:
		h.Wafer += chance.Int63n(3) - 1
	case 3:
		h.From += chance.Int63n(3) - 1
	case 4:
		h.To += chance.Int63n(3) - 1
	case 5:
		*[]*int64{&h.At, &h.Wafer, &h.From, &h.To}[chance.Intn(4)] = end
	case 6:
		list = slices.Delete(list, i, i+1)
	case 7:
		list = slices.Insert(list, i, list[j])
	case 8:
		list[i], list[j] = list[j], list[i]
	case 9:
		copy(list[i:], shifted(list[i:], chance.Int63n(9)-2))
	}
	return list
}

func TestSomeSchedulesAreChecked(t *testing.T) {
	chance := rand.New(rand.NewSource(225))
	met := map[bool]int{}
	for range 3000 {
		c := someCluster(chance)
		wafers := chance.Int63n(numbers(3, 6, 13)[chance.Intn(3)])
		list := someHauls(chance, c, wafers, numbers(1, 2, 30)[chance.Intn(3)])
		whole := len(list) == int(wafers)*(len(c.Route)+1)
		checkKept(t, "whoever goes", c, wafers, list, whole)
		if !whole && !comesTwice(c) {
			t.Errorf("%d wafers are locked in %v", wafers, c)
		}
		list = turnedHauls(chance, list)
		want := keptWant(c, wafers, list)
		checkKept(t, "turned", c, wafers, list, want)
		met[want]++
	}
	if met[true] < 300 || met[false] < 300 {
		t.Errorf("so often they are kept: %v", met)
	}
}

// No haul of a schedule that is made can come sooner, and the last one may come as late as may be.
func TestMadeSchedulesHaveNoRoom(t *testing.T) {
	chance := rand.New(rand.NewSource(226))
	for range 300 {
		c, wafers := someCluster(chance), 1+chance.Int63n(12)
		made := impl.MakeSchedule(c, wafers)
		if made.Code != impl.OK {
			continue
		}
		for i := range made.Hauls {
			sooner := slices.Clone(made.Hauls)
			sooner[i].At--
			checkKept(t, "sooner", c, wafers, sooner, false)
		}
		last := &made.Hauls[len(made.Hauls)-1]
		last.At = latest
		checkKept(t, "as late as may be", c, wafers, made.Hauls, true)
		last.At++
		checkKept(t, "later", c, wafers, made.Hauls, false)
	}
}
