package tests

import (
	"math/rand"
	"testing"

	"loop.example/g00057/impl"
)

// clusterCase is a cluster and its fault.
type clusterCase struct {
	name    string
	cluster impl.Cluster
	code    int64
}

func clusterListCases() []clusterCase {
	return []clusterCase{
		{"nothing", impl.Cluster{}, impl.ErrForm},
		{"bare", cluster(1, numbers(1), 1), impl.OK},
		{"plain", plainCluster(), impl.OK},
		{"no Times", cluster(1, nil, 1), impl.ErrForm},
		{"empty Times", cluster(1, []int64{}, 1), impl.ErrForm},
		{"no Route", cluster(1, numbers(1)), impl.ErrForm},
		{"empty Route", cluster(1, numbers(1), []int64{}...), impl.ErrForm},
		{"one fewer than MaxChambers", cluster(1, longer(numbers(3), 5), 1, 5), impl.OK},
		{"MaxChambers", cluster(1, longer(numbers(3), 6), 1, 6), impl.OK},
		{"one more", cluster(1, longer(numbers(3), 7), 1, 6), impl.ErrMany},
		{"far too many", cluster(1, longer(numbers(3), 10000), 1, 6), impl.ErrMany},
		{"one fewer than MaxRoute", cluster(1, numbers(3, 4), longer(numbers(1, 2), 7)...), impl.OK},
		{"MaxRoute", cluster(1, numbers(3, 4), longer(numbers(1, 2), 8)...), impl.OK},
		{"one place more", cluster(1, numbers(3, 4), longer(numbers(1, 2), 9)...), impl.ErrMany},
		{"far too many places", cluster(1, numbers(3, 4), longer(numbers(1, 2), 10000)...), impl.ErrMany},
		{"as much as there may be", cluster(100, longer(numbers(1000), 6), 1, 2, 3, 4, 5, 6, 1, 2), impl.OK},
	}
}

func clusterNumberCases() []clusterCase {
	return []clusterCase{
		{"a time of 0", cluster(1, numbers(5, 0), 1, 2), impl.ErrRange},
		{"a time of 1", cluster(1, numbers(5, 1), 1, 2), impl.OK},
		{"a time of 1000", cluster(1, numbers(1000, 5), 1, 2), impl.OK},
		{"a time of 1001", cluster(1, numbers(1001, 5), 1, 2), impl.ErrRange},
		{"a time below 0", cluster(1, numbers(5, -1), 1, 2), impl.ErrRange},
		{"a time of 0 of a chamber that is not in Route", cluster(1, numbers(5, 0), 1), impl.ErrRange},
		{"the least time", cluster(1, numbers(leastInt), 1), impl.ErrRange},
		{"the greatest time", cluster(1, numbers(greatestInt), 1), impl.ErrRange},
		{"Move of -1", cluster(-1, numbers(5), 1), impl.ErrRange},
		{"Move of 0", cluster(0, numbers(5), 1), impl.ErrRange},
		{"Move of 1", cluster(1, numbers(5), 1), impl.OK},
		{"Move of 100", cluster(100, numbers(5), 1), impl.OK},
		{"Move of 101", cluster(101, numbers(5), 1), impl.ErrRange},
		{"the least Move", cluster(leastInt, numbers(5), 1), impl.ErrRange},
		{"the greatest Move", cluster(greatestInt, numbers(5), 1), impl.ErrRange},
	}
}

func clusterRouteCases() []clusterCase {
	three := numbers(3, 4, 5)
	return []clusterCase{
		{"a place of 0", cluster(1, three, 1, 0), impl.ErrForm},
		{"a place of 1", cluster(1, three, 2, 1), impl.OK},
		{"a place of n", cluster(1, three, 3), impl.OK},
		{"a place of n + 1", cluster(1, three, 4), impl.ErrForm},
		{"the last place of n + 1", cluster(1, three, 1, 2, 4), impl.ErrForm},
		{"a place below 0", cluster(1, three, -1, 2), impl.ErrForm},
		{"MaxChambers, but not of this cluster", cluster(1, three, 6), impl.ErrForm},
		{"the least place", cluster(1, three, leastInt), impl.ErrForm},
		{"the greatest place", cluster(1, three, greatestInt), impl.ErrForm},
		{"twice in a row", cluster(1, three, 2, 2), impl.ErrForm},
		{"twice in a row at the end", cluster(1, three, 1, 3, 2, 2), impl.ErrForm},
		{"twice in a row, of one chamber", cluster(1, numbers(3), 1, 1), impl.ErrForm},
		{"twice with another between", cluster(1, three, 2, 1, 2), impl.OK},
		{"twice, first and last", cluster(1, three, 2, 1, 3, 2), impl.OK},
		{"four times", cluster(1, three, 2, 1, 2, 3, 2, 1, 2), impl.OK},
		{"in falling order", cluster(1, three, 3, 2, 1), impl.OK},
	}
}

func TestClusterFaultByHand(t *testing.T) {
	for _, cases := range [][]clusterCase{clusterListCases(), clusterNumberCases(), clusterRouteCases()} {
		for _, c := range cases {
			checkClusterFault(t, c.name, c.cluster, c.code)
		}
	}
}

// clusterSpoil turns one thing of a cluster that plainCluster answers.
type clusterSpoil struct {
	code  int64
	spoil func(c *impl.Cluster)
}

// clusterSpoils stand in the order in which they are told: those of one row are asked together, ahead of the rows behind it. Times and Route become longer, never shorter, so that none takes another away.
func clusterSpoils() [][]clusterSpoil {
	return [][]clusterSpoil{
		{
			{impl.ErrMany, func(c *impl.Cluster) { c.Times = append(c.Times, longer(numbers(3), 7)...) }},
			{impl.ErrMany, func(c *impl.Cluster) { c.Route = append(c.Route, longer(numbers(1, 2), 9)...) }},
		},
		{
			{impl.ErrRange, func(c *impl.Cluster) { c.Times = append(c.Times, 0) }},
			{impl.ErrRange, func(c *impl.Cluster) { c.Times[0] = 1001 }},
			{impl.ErrRange, func(c *impl.Cluster) { c.Move = 0 }},
			{impl.ErrRange, func(c *impl.Cluster) { c.Move = 101 }},
		},
		{
			{impl.ErrForm, func(c *impl.Cluster) { c.Route = append(c.Route, 0) }},
			{impl.ErrForm, func(c *impl.Cluster) { c.Route = append(c.Route, 99) }},
			{impl.ErrForm, func(c *impl.Cluster) { c.Route = append(c.Route, 1, 1) }},
		},
	}
}

func TestOrderOfClusterFaults(t *testing.T) {
	rows := clusterSpoils()
	for i, row := range rows {
		for _, first := range row {
			c := copyCluster(plainCluster())
			first.spoil(&c)
			checkClusterFault(t, "one fault", c, first.code)
			for _, later := range rows[i:] {
				for _, second := range later {
					both := copyCluster(c)
					second.spoil(&both)
					checkClusterFault(t, "two faults", both, first.code)
				}
			}
		}
	}
	for _, c := range []impl.Cluster{
		cluster(0, nil, longer(numbers(1, 1), 9)...),
		cluster(0, nil),
		cluster(0, longer(numbers(0), 7)),
		cluster(101, nil, 0),
	} {
		checkClusterFault(t, "nothing of one, too much of the other", c, impl.ErrForm)
	}
}

func TestClusterFaultAtEveryEnd(t *testing.T) {
	for _, n := range clusterEnds() {
		checkClusterFault(t, "a time", cluster(1, numbers(5, n), 1, 2), impl.ErrRange*bit(n < 1 || n > 1000))
		checkClusterFault(t, "Move", cluster(n, numbers(5, 7), 1, 2), impl.ErrRange*bit(n < 1 || n > 100))
		checkClusterFault(t, "a place", cluster(1, longer(numbers(5), 6), n), impl.ErrForm*bit(n < 1 || n > 6))
		checkClusterFault(t, "a place behind 2", cluster(1, longer(numbers(5), 6), 2, n), impl.ErrForm*bit(n < 1 || n > 6 || n == 2))
	}
}

func TestSomeClusterFaults(t *testing.T) {
	chance := rand.New(rand.NewSource(221))
	met := map[int64]int{}
	for range 3000 {
		right := someCluster(chance)
		checkClusterFault(t, "right", right, impl.OK)
		wrong := spoiledCluster(chance, right)
		code := clusterFaultWant(wrong)
		checkClusterFault(t, "spoiled", wrong, code)
		met[code]++
	}
	for _, code := range numbers(impl.OK, impl.ErrForm, impl.ErrMany, impl.ErrRange) {
		if met[code] < 50 {
			t.Errorf("the codes are %v", met)
		}
	}
}
