package tests

import (
	"math/rand"
	"slices"
	"testing"

	"loop.example/g00057/impl"
)

func checkClusters(t *testing.T, what string, list []impl.Defect, near int64, want impl.IntsResult) {
	t.Helper()
	checkInts(t, what, impl.ClustersOf(list, near), want)
	checkInts(t, what+", plainly", clustersWant(list, near), want)
}

// spaced has n defects in a row, each so far from the one ahead.
func spaced(n int, by int64) []impl.Defect {
	var list []impl.Defect
	for i := range int64(n) {
		list = append(list, defect(i*by, 0, 1, 0))
	}
	return list
}

func counting(n int) []int64 {
	var list []int64
	for i := range int64(n) {
		list = append(list, i)
	}
	return list
}

func TestClustersOfByHand(t *testing.T) {
	for _, c := range []struct {
		name string
		list []impl.Defect
		near int64
		want impl.IntsResult
	}{
		{"no list", nil, 5, ints()},
		{"no defect", defects(), 0, ints()},
		{"one", defectsAt(7, 8), 0, ints(0)},
		{"two that are near, one apart", defectsAt(0, 0, 9, 9, 2, 1), 2, ints(0, 1, 0)},
		{"two at one place, near 0", defectsAt(5, 5, 5, 5), 0, ints(0, 0)},
		{"three at one place, others between them", defectsAt(5, 5, 1, 1, 5, 5, 2, 2, 5, 5), 0, ints(0, 1, 0, 2, 0)},
		{"beside each other, near 0", defectsAt(5, 5, 6, 5, 5, 6, 6, 6), 0, ints(0, 1, 2, 3)},
		{"at one place, of other sizes and kinds", defects(defect(5, 5, 1, 0), defect(5, 5, 1000, 9)), 0, ints(0, 0)},

		{"just near in X", defectsAt(10, 10, 13, 10), 3, ints(0, 0)},
		{"one more in X", defectsAt(10, 10, 14, 10), 3, ints(0, 1)},
		{"just near in X, to the left", defectsAt(10, 10, 7, 10), 3, ints(0, 0)},
		{"one more in X, to the left", defectsAt(10, 10, 6, 10), 3, ints(0, 1)},
		{"just near in Y", defectsAt(10, 10, 10, 13), 3, ints(0, 0)},
		{"one more in Y", defectsAt(10, 10, 10, 14), 3, ints(0, 1)},
		{"just near in Y, below", defectsAt(10, 10, 10, 7), 3, ints(0, 0)},
		{"one more in Y, below", defectsAt(10, 10, 10, 6), 3, ints(0, 1)},
		{"just near in both", defectsAt(10, 10, 13, 13), 3, ints(0, 0)},
		{"just near in both, the other way", defectsAt(10, 10, 13, 7), 3, ints(0, 0)},
		{"one more in both", defectsAt(10, 10, 14, 14), 3, ints(0, 1)},
		{"just near in X, one more in Y", defectsAt(10, 10, 13, 14), 3, ints(0, 1)},
		{"one more in X, just near in Y", defectsAt(10, 10, 14, 13), 3, ints(0, 1)},
		{"the greatest near", defectsAt(0, 0, 1000, 1000), 1000, ints(0, 0)},
		{"one beyond the greatest near", defectsAt(0, 0, 1001, 0), 1000, ints(0, 1)},
		{"the whole plane between them", defectsAt(0, 0, 10000, 10000), 1000, ints(0, 1)},

		{"step by step", defectsAt(0, 0, 3, 0, 6, 0, 9, 0), 3, ints(0, 0, 0, 0)},
		{"step by step, one step too far", defectsAt(0, 0, 3, 0, 7, 0, 10, 0), 3, ints(0, 0, 1, 1)},
		{"joined by a later one", defectsAt(0, 0, 6, 0, 3, 0), 3, ints(0, 0, 0)},
		{"the last joins three", defectsAt(0, 0, 6, 0, 3, 6, 3, 3), 3, ints(0, 0, 0, 0)},
		{"the last joins the second and the third", defectsAt(0, 0, 100, 0, 106, 0, 103, 0), 3, ints(0, 1, 1, 1)},
		{"the last joins the first and the third", defectsAt(0, 0, 100, 0, 6, 0, 3, 0), 3, ints(0, 1, 0, 0)},
		{"two that grow, joined at the end", defectsAt(0, 0, 20, 0, 4, 0, 16, 0, 8, 0, 12, 0), 4, ints(0, 0, 0, 0, 0, 0)},
		{"joined ones leave no number free", defectsAt(0, 0, 6, 0, 100, 0, 3, 0, 200, 0), 3, ints(0, 0, 1, 0, 2)},
		{"by their first defects", defectsAt(50, 0, 10, 0, 30, 0, 11, 0, 51, 0), 2, ints(0, 1, 2, 1, 0)},
		{"not by place", defectsAt(9000, 9000, 0, 0, 5000, 5000), 10, ints(0, 1, 2)},

		{"MaxDefects, step by step", spaced(60, 7), 7, ints(make([]int64, 60)...)},
		{"MaxDefects, each apart", spaced(60, 8), 7, ints(counting(60)...)},
	} {
		checkClusters(t, c.name, c.list, c.near, c.want)
	}
}

func TestClustersOfFaults(t *testing.T) {
	for _, near := range defectEnds() {
		for _, c := range defectCases() {
			code := c.code
			if code == impl.OK && (near < 0 || near > 1000) {
				code = impl.ErrRange
			}
			if got := impl.ClustersOf(c.list, near); got.Code != code || code != impl.OK && len(got.List) != 0 {
				t.Errorf("%s near %d: %s, want %d", c.name, near, brief(got), code)
			}
		}
	}
	for near, code := range map[int64]int64{-1: impl.ErrRange, 0: impl.OK, 1000: impl.OK, 1001: impl.ErrRange} {
		if got := impl.ClustersOf(nil, near); got.Code != code {
			t.Errorf("none near %d: %v", near, got)
		}
	}
}

// All lists of five defects at the places of a small square, with every near up to its side.
func TestClustersOfAllSmall(t *testing.T) {
	for i := range 9 * 9 * 9 * 9 * 9 {
		var list []impl.Defect
		for at := i; len(list) < 5; at /= 9 {
			list = append(list, defect(int64(at%3)*2, int64(at/3%3)*2, 1, 0))
		}
		near := int64(i*7/3) % 5
		if got, want := impl.ClustersOf(list, near), clustersWant(list, near); !sameInts(got, want) {
			t.Fatalf("%v near %d: %v, want %v", list, near, got, want)
		}
	}
}

func TestSomeClusters(t *testing.T) {
	chance, most := rand.New(rand.NewSource(161)), int64(0)
	for i := range 4000 {
		list := someDefects(chance, chance.Intn(61), numbers(12, 60, 400, 10001)[i%4], 9)
		near := chance.Int63n(numbers(4, 12, 60, 1001)[i%4])
		want := clustersWant(list, near)
		checkClusters(t, "some", list, near, want)
		checkJoined(t, list, near)
		most = max(most, slices.Max(append(want.List, 0)))
	}
	if most < 40 {
		t.Errorf("there are never more than %d clusters", most+1)
	}
}

// checkJoined holds the words of the document against an answer: near ones are of one cluster, and numbers come by
// their first defects, none left out.
func checkJoined(t *testing.T, list []impl.Defect, near int64) {
	t.Helper()
	got := impl.ClustersOf(list, near).List
	next := int64(0)
	for i, a := range list {
		for j, b := range list {
			if areNear(a, b, near) && got[i] != got[j] {
				t.Errorf("%v and %v are near, but of the clusters %d and %d", a, b, got[i], got[j])
			}
		}
		if got[i] > next {
			t.Errorf("%s near %d: the number %d comes ahead of %d", brief(list), near, got[i], next)
		}
		next = max(next, got[i]+1)
	}
}

// The order of defects turns the numbers, but not what belongs together.
func TestClustersInAnyOrder(t *testing.T) {
	chance := rand.New(rand.NewSource(162))
	for range 500 {
		list, near := someDefects(chance, 1+chance.Intn(60), 80, 9), chance.Int63n(15)
		order := chance.Perm(len(list))
		var mixed []impl.Defect
		for _, at := range order {
			mixed = append(mixed, list[at])
		}
		first, second := impl.ClustersOf(list, near).List, impl.ClustersOf(mixed, near).List
		for i := range order {
			for j := range order {
				if (second[i] == second[j]) != (first[order[i]] == first[order[j]]) {
					t.Fatalf("%s near %d: another order joins others", brief(list), near)
				}
			}
		}
	}
}

// What is near stays near: with a greater near there is never more apart.
func TestClustersGrowWithNear(t *testing.T) {
	chance := rand.New(rand.NewSource(163))
	for range 200 {
		list := someDefects(chance, 1+chance.Intn(60), 100, 9)
		last := impl.ClustersOf(list, 0).List
		for near := range int64(40) {
			now := impl.ClustersOf(list, near).List
			for i := range list {
				for j := range i {
					if last[i] == last[j] && now[i] != now[j] {
						t.Fatalf("%s near %d: two are no more of one cluster", brief(list), near)
					}
				}
			}
			last = now
		}
		if slices.Max(impl.ClustersOf(list, 100).List) != 0 {
			t.Fatalf("%s: all are near, but not one", brief(list))
		}
	}
}
