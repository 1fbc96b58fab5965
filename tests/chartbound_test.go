package tests

import (
	"math/rand"
	"testing"

	"loop.example/g00057/impl"
)

func checkBound(t *testing.T, what string, l impl.Loop, first int64, step int64, want impl.ShapeInt) {
	t.Helper()
	checkValue(t, what, impl.BoundOf(l, first, step), want)
	checkValue(t, what+", plainly", boundWant(l, first, step), want)
}

func TestBoundOfByHand(t *testing.T) {
	const most = mostCharted
	whole, third, thirds := loop(0, 1, 1, 0), loop(0, 1, 3, 0), loop(0, 2, 3, 0)
	for _, c := range []struct {
		name        string
		l           impl.Loop
		first, step int64
		want        int64
	}{
		{"nothing moves", whole, 0, 0, 1},
		{"the first is as great", whole, 1, 0, 1},
		{"the first is greater", whole, 2, 0, 2},
		{"a step", whole, 0, 4, 5},
		{"a step, the first as great", whole, 5, 4, 5},
		{"a step, the first greater", whole, 6, 4, 6},
		{"a third", third, 0, 0, 3},
		{"a third, a step", third, 0, 1, 6},
		{"a third, the first one more", third, 7, 1, 7},
		{"two thirds, a rest", thirds, 0, 0, 2},
		{"two thirds, no rest", thirds, 0, 1, 3},
		{"two thirds, a rest again", thirds, 0, 2, 5},
		{"two thirds, the first at the quotient rounded down", thirds, 4, 2, 5},
		{"two thirds, the first at the quotient rounded up", thirds, 5, 2, 5},
		{"a rest of 1", loop(0, 999, 1000, 0), 0, 998, 1000},
		{"a small rest", loop(0, 999, 1000, 0), 0, 0, 2},
		{"one more step", loop(0, 999, 1000, 0), 0, 999, 1002},
		{"the rest is the greatest", loop(0, 3, 7, 0), 0, 1, 5},
		{"shares in other terms", loop(0, 500, 1000, 0), 0, 3, 8},
		{"Target and Start do not matter", loop(most, 1, 2, -most), 0, 3, 8},
		{"the greatest first", whole, most, 0, most},
		{"the greatest first, a step of one less", whole, most, most - 2, most},
		{"the greatest step", whole, most, most, most + 1},
		{"the greatest of all", loop(0, 1, 1000, 0), most, most, 1000001000},
		{"the greatest step, a rest", loop(0, 7, 1000, 0), 0, most, 142857286},
	} {
		checkBound(t, c.name, c.l, c.first, c.step, value(c.want))
	}
}

func TestBoundOfFaults(t *testing.T) {
	half := loop(0, 1, 2, 0)
	for _, c := range []struct {
		name        string
		first, step int64
		want        impl.ShapeInt
	}{
		{"first -1", -1, 0, valueCode(impl.ErrRange)},
		{"first 0", 0, 0, value(2)},
		{"the greatest first", mostCharted, 0, value(mostCharted)},
		{"first one more", mostCharted + 1, 0, valueCode(impl.ErrRange)},
		{"step -1", 0, -1, valueCode(impl.ErrRange)},
		{"step 0", 1, 0, value(2)},
		{"the greatest step", 0, mostCharted, value(2*mostCharted + 2)},
		{"step one more", 0, mostCharted + 1, valueCode(impl.ErrRange)},
		{"both -1", -1, -1, valueCode(impl.ErrRange)},
		{"both the least", leastInt, leastInt, valueCode(impl.ErrRange)},
		{"both the greatest", greatestInt, greatestInt, valueCode(impl.ErrRange)},
	} {
		checkBound(t, c.name, half, c.first, c.step, c.want)
	}
	for _, c := range loopCases() {
		for _, first := range chartEnds() {
			for _, step := range numbers(-1, 0, 1, mostCharted, mostCharted+1, leastInt, greatestInt) {
				if c.code != impl.OK {
					checkBound(t, c.name, c.l, first, step, valueCode(c.code))
				}
				checkValue(t, c.name, impl.BoundOf(c.l, first, step), boundWant(c.l, first, step))
			}
		}
	}
}

func TestBoundOfEveryShare(t *testing.T) {
	for den := int64(1); den <= 1000; den += 1 + den/30 {
		for num := int64(1); num <= den; num += 1 + num/20 {
			for _, step := range numbers(0, 1, num-1, num, 999, mostCharted) {
				l := loop(0, num, den, 0)
				checkValue(t, "a share", impl.BoundOf(l, 5, step), boundWant(l, 5, step))
			}
		}
	}
}

// sizesWithin tells whether no error is greater in size than the bound that is told.
func sizesWithin(errors []int64, most int64) bool {
	for _, n := range errors {
		if n > most || n < -most {
			return false
		}
	}
	return true
}

// checkBoundKept takes first and step from the run itself, as narrow as they can be.
func checkBoundKept(t *testing.T, l impl.Loop, disturb []int64) {
	t.Helper()
	run := impl.RunLoop(l, disturb)
	first, step := max(run.Errors[0], -run.Errors[0]), int64(0)
	for i := range len(disturb) - 1 {
		step = max(step, disturb[i+1]-disturb[i], disturb[i]-disturb[i+1])
	}
	bound := impl.BoundOf(l, first, step)
	if first > mostCharted || step > mostCharted {
		checkValue(t, "too great", bound, valueCode(impl.ErrRange))
		return
	}
	if bound.Code != impl.OK || !sizesWithin(run.Errors, bound.Value) {
		t.Errorf("%v under %s: the errors %s leave %v", l, brief(disturb), brief(run.Errors), bound)
	}
}

func TestNoErrorLeavesTheBound(t *testing.T) {
	chance := rand.New(rand.NewSource(179))
	for i := range 3000 {
		most, den := numbers(3, 60, 5000, mostCharted/3)[i%4], 1+chance.Int63n(numbers(4, 50, 1000)[i%3])
		l := loop(chance.Int63n(2*most+1)-most, 1+chance.Int63n(den), den, chance.Int63n(2*most+1)-most)
		checkBoundKept(t, l, someRuns(chance, 1+chance.Intn(200), most))
	}
}

// All short runs of small disturbances, in which halves of both signs are met.
func TestNoErrorLeavesTheBoundOfAllSmall(t *testing.T) {
	for _, disturb := range allCharts(5, -3, -1, 0, 1, 2) {
		for _, l := range []impl.Loop{loop(0, 1, 1, 0), loop(0, 1, 2, 1), loop(1, 1, 4, -1), loop(0, 3, 4, 0), loop(2, 1, 6, 0)} {
			checkBoundKept(t, l, disturb)
		}
	}
}

// worstOf has disturbances that change by step at each place, each so that the error grows.
func worstOf(l impl.Loop, first int64, step int64, n int) []int64 {
	disturb := numbers(first + l.Target - l.Start)
	for len(disturb) < n {
		run := impl.RunLoop(l, append(disturb, disturb[len(disturb)-1]))
		next, last := disturb[len(disturb)-1]+step, run.Errors[len(run.Errors)-1]
		if last < 0 {
			next -= 2 * step
		}
		disturb = append(disturb, min(max(next, -mostCharted), mostCharted))
	}
	return disturb
}

// Disturbances that only make it worse come near to the bound, but not beyond it.
func TestWorstDisturbancesStayWithinTheBound(t *testing.T) {
	for _, share := range [][2]int64{{1, 1}, {1, 2}, {2, 3}, {1, 3}, {3, 7}, {1, 10}, {9, 10}, {1, 30}, {499, 1000}, {501, 1000}, {999, 1000}} {
		for _, step := range numbers(0, 1, 2, 3, 10, 99, 1000) {
			for _, first := range numbers(0, 1, -1, step, -step, 5000, -5000) {
				l := loop(3, share[0], share[1], -4)
				disturb := worstOf(l, first, step, 200)
				errors, bound := impl.RunLoop(l, disturb).Errors, impl.BoundOf(l, max(first, -first), step).Value
				if !sizesWithin(errors, bound) {
					t.Errorf("%v, %d, %d: %s leave %d", l, first, step, brief(errors), bound)
				}
				if step == 1000 && share[0]*10 >= share[1] && sizesWithin(errors, (step-1)*share[1]/share[0]-1) {
					t.Errorf("%v, %d, %d: %s stay far below %d", l, first, step, brief(errors), bound)
				}
			}
		}
	}
}
