package tests

import (
	"math/big"
	"math/rand"
	"slices"
	"testing"

	"loop.example/g00057/impl"
)

const mostCharted = 1000000

// alarmsAt are told by At and Rule in turn.
func alarmsAt(pairs ...int64) impl.AlarmsResult {
	var out impl.AlarmsResult
	for i := 0; i < len(pairs); i += 2 {
		out.Alarms = append(out.Alarms, impl.Alarm{At: pairs[i], Rule: pairs[i+1]})
	}
	return out
}

func alarmsCode(code int64) impl.AlarmsResult {
	return impl.AlarmsResult{Code: code}
}

func loop(target int64, num int64, den int64, start int64) impl.Loop {
	return impl.Loop{Target: target, Num: num, Den: den, Start: start}
}

func loopRun(inputs []int64, errors []int64) impl.LoopResult {
	return impl.LoopResult{Inputs: inputs, Errors: errors}
}

func loopCode(code int64) impl.LoopResult {
	return impl.LoopResult{Code: code}
}

func sameAlarms(a impl.AlarmsResult, b impl.AlarmsResult) bool {
	return a.Code == b.Code && slices.Equal(a.Alarms, b.Alarms)
}

func sameRun(a impl.LoopResult, b impl.LoopResult) bool {
	return a.Code == b.Code && slices.Equal(a.Inputs, b.Inputs) && slices.Equal(a.Errors, b.Errors)
}

func checkToldAlarms(t *testing.T, what string, got impl.AlarmsResult, want impl.AlarmsResult) {
	t.Helper()
	if !sameAlarms(got, want) {
		t.Errorf("%s: %s, want %s", what, brief(got), brief(want))
	}
}

func checkToldRun(t *testing.T, what string, got impl.LoopResult, want impl.LoopResult) {
	t.Helper()
	if !sameRun(got, want) {
		t.Errorf("%s: %s, want %s", what, brief(got), brief(want))
	}
}

// charted puts in what may be wrong with a list of numbers from least to most.
func (f *faults) charted(list []int64, least int64, most int64) {
	f.wrong(impl.ErrMany, len(list) >= 201)
	for _, n := range list {
		f.wrong(impl.ErrRange, n < least, n > most)
	}
}

func chartFaultWant(list []int64) int64 {
	var codes faults
	codes.charted(list, -mostCharted, mostCharted)
	return codes.first()
}

// farUp counts the numbers that lie above centre by more than so much, farDown those below it.
func farUp(list []int64, centre int64, by int64) int {
	return len(list) - len(slices.DeleteFunc(slices.Clone(list), func(n int64) bool { return n > centre+by }))
}

func farDown(list []int64, centre int64, by int64) int {
	return len(list) - len(slices.DeleteFunc(slices.Clone(list), func(n int64) bool { return n < centre-by }))
}

// lastOf has so many of the last numbers, or as many as there are.
func lastOf(list []int64, n int) []int64 {
	return list[max(0, len(list)-n):]
}

// manyFar: of the last so many numbers at least so many are that far above, or below, and the last is one of them.
func manyFar(list []int64, window int, least int, centre int64, by int64) bool {
	window, some := min(window, len(list)), lastOf(list, window)
	last := some[window-1:]
	return farUp(some, centre, by) >= least && farUp(last, centre, by) == 1 || farDown(some, centre, by) >= least && farDown(last, centre, by) == 1
}

func allRise(list []int64) bool {
	for i := range len(list) - 1 {
		if list[i] >= list[i+1] {
			return false
		}
	}
	return true
}

func backwards(list []int64) []int64 {
	list = slices.Clone(list)
	slices.Reverse(list)
	return list
}

// allTurn: each of the numbers that has one on either side is above both, or below both.
func allTurn(list []int64) bool {
	for i := 1; i+1 < len(list); i++ {
		peak := list[i] > list[i-1] && list[i] > list[i+1]
		dip := list[i] < list[i-1] && list[i] < list[i+1]
		if !peak && !dip {
			return false
		}
	}
	return true
}

// ruleWant asks a rule at the last of these numbers.
func ruleWant(rule int64, list []int64, centre int64, sigma int64) bool {
	last := list[len(list)-1]
	switch rule {
	case impl.RuleFar:
		return last-centre > 3*sigma || last-centre < -3*sigma
	case impl.RuleTwo:
		return manyFar(list, 3, 2, centre, 2*sigma)
	case impl.RuleFour:
		return manyFar(list, 5, 4, centre, sigma)
	case impl.RuleSide:
		eight := lastOf(list, 8)
		return len(eight) == 8 && (slices.Min(eight) > centre || slices.Max(eight) < centre)
	case impl.RuleTrend:
		six := lastOf(list, 6)
		return len(six) == 6 && (allRise(six) || allRise(backwards(six)))
	}
	fourteen := lastOf(list, 14)
	return len(fourteen) == 14 && allTurn(fourteen)
}

func alarmsWant(list []int64, centre int64, sigma int64) impl.AlarmsResult {
	var codes faults
	codes.found(chartFaultWant(list))
	codes.wrong(impl.ErrRange, centre < -mostCharted, centre > mostCharted, sigma <= 0, sigma >= 100001)
	if code := codes.first(); code != impl.OK {
		return alarmsCode(code)
	}
	var pairs []int64
	for at := range list {
		for rule := int64(1); rule <= 6; rule++ {
			if ruleWant(rule, list[:at+1], centre, sigma) {
				pairs = append(pairs, int64(at), rule)
			}
		}
	}
	return alarmsAt(pairs...)
}

// bestEnd is the greatest sum of numbers, each less slack, that end with the last one; of none it is 0.
func bestEnd(list []int64, slack int64) int64 {
	best, sum := int64(0), int64(0)
	for _, n := range backwards(list) {
		sum += n - slack
		best = max(best, sum)
	}
	return best
}

// cusumWant begins each sum behind its last alarm: it is then the greatest sum that ends at the place.
func cusumWant(list []int64, centre int64, slack int64, limit int64) impl.AlarmsResult {
	var codes faults
	codes.found(chartFaultWant(list))
	codes.wrong(impl.ErrRange, centre < -mostCharted, centre > mostCharted, slack <= -1, slack > mostCharted, limit <= 0, limit > mostCharted)
	if code := codes.first(); code != impl.OK {
		return alarmsCode(code)
	}
	var pairs, up, down []int64
	for at, n := range list {
		up, down = append(up, n-centre), append(down, centre-n)
		if bestEnd(up, slack) > limit {
			pairs, up = append(pairs, int64(at), 1), nil
		}
		if bestEnd(down, slack) > limit {
			pairs, down = append(pairs, int64(at), 2), nil
		}
	}
	return alarmsAt(pairs...)
}

// downWant is the greatest whole number that is not above a.
func downWant(a *big.Rat) *big.Int {
	return new(big.Int).Div(a.Num(), a.Denom())
}

func ewmaWant(list []int64, num int64, den int64) impl.IntsResult {
	var codes faults
	codes.found(chartFaultWant(list))
	codes.wrong(impl.ErrForm, num <= -1, num > den, den <= 0, den >= 1001)
	if code := codes.first(); code != impl.OK {
		return intsCode(code)
	}
	out, e := ints(), new(big.Int)
	for at, n := range list {
		goal := new(big.Int).Mul(big.NewInt(n), big.NewInt(64))
		if at == 0 {
			e.Set(goal)
		}
		gap := new(big.Rat).SetInt(new(big.Int).Sub(goal, e))
		e.Add(e, downWant(gap.Mul(gap, big.NewRat(num, den))))
		out.List = append(out.List, e.Int64())
	}
	return out
}

func loopFaultWant(l impl.Loop) int64 {
	var codes faults
	codes.wrong(impl.ErrForm, l.Num <= 0, l.Num > l.Den, l.Den <= 0, l.Den >= 1001)
	codes.wrong(impl.ErrRange, l.Target < -mostCharted, l.Target > mostCharted, l.Start < -mostCharted, l.Start > mostCharted)
	return codes.first()
}

// nearestWant holds the whole numbers on both sides against a; where both are as near, the sizes decide.
func nearestWant(a *big.Rat) int64 {
	below := downWant(a).Int64()
	above := below + 1
	toBelow, toAbove := new(big.Rat).Sub(a, number(below)), new(big.Rat).Sub(number(above), a)
	if near := toBelow.Cmp(toAbove); near < 0 || near == 0 && below < 0 {
		return below
	}
	return above
}

func runWant(l impl.Loop, disturb []int64) impl.LoopResult {
	var codes faults
	codes.found(loopFaultWant(l))
	codes.found(chartFaultWant(disturb))
	if code := codes.first(); code != impl.OK {
		return loopCode(code)
	}
	var out impl.LoopResult
	for at, n := range disturb {
		input := l.Start
		if at > 0 {
			share := new(big.Rat).Mul(number(out.Errors[at-1]), big.NewRat(l.Num, l.Den))
			input = out.Inputs[at-1] - nearestWant(share)
		}
		out.Inputs, out.Errors = append(out.Inputs, input), append(out.Errors, input+n-l.Target)
	}
	return out
}

func boundWant(l impl.Loop, first int64, step int64) impl.ShapeInt {
	var codes faults
	codes.found(loopFaultWant(l))
	codes.wrong(impl.ErrRange, first <= -1, first > mostCharted, step <= -1, step > mostCharted)
	if code := codes.first(); code != impl.OK {
		return valueCode(code)
	}
	most := new(big.Rat).Mul(number(step+1), big.NewRat(l.Den, l.Num))
	up := downWant(most)
	if !most.IsInt() {
		up.Add(up, big.NewInt(1))
	}
	return value(max(first, up.Int64()))
}

func capableWant(list []int64, low int64, high int64) impl.FracResult {
	var codes faults
	codes.found(chartFaultWant(list))
	codes.wrong(impl.ErrNone, len(list) <= 1)
	codes.wrong(impl.ErrRange, low >= high, low < -mostCharted, low > mostCharted, high < -mostCharted, high > mostCharted)
	codes.wrong(impl.ErrZero, len(slices.Compact(slices.Clone(list))) == 1)
	if code := codes.first(); code != impl.OK {
		return fracCode(code)
	}
	rising := slices.Sorted(slices.Values(list))
	least, greatest := rising[0], rising[len(rising)-1]
	above, below := big.NewRat(high-greatest, greatest-least), big.NewRat(least-low, greatest-least)
	if above.Cmp(below) < 0 {
		return answerOf(above)
	}
	return answerOf(below)
}

// wearWant keeps the numbers since the wear was last 0.
func wearWant(wear []int64, limit int64) impl.IntsResult {
	var codes faults
	codes.charted(wear, 0, mostCharted)
	codes.wrong(impl.ErrRange, limit <= 0, limit > mostCharted)
	if code := codes.first(); code != impl.OK {
		return intsCode(code)
	}
	out := ints()
	var since []int64
	for _, n := range wear {
		if totalOf(grid(append(slices.Clone(since), n))) > limit {
			since = nil
		}
		since = append(since, n)
		out.List = append(out.List, totalOf(grid(since)))
	}
	return out
}

// someChart has numbers from -most to most.
func someChart(chance *rand.Rand, n int, most int64) []int64 {
	var list []int64
	for range n {
		list = append(list, chance.Int63n(2*most+1)-most)
	}
	return list
}

// someRuns has pieces that rise, fall, go to and fro, or lie on one side, so that all rules are met; from -most to most.
func someRuns(chance *rand.Rand, n int, most int64) []int64 {
	var list []int64
	at, step := int64(0), int64(1)
	for len(list) < n {
		step = 1 + chance.Int63n(max(1, most/8))
		kind := chance.Intn(5)
		for range 4 + chance.Intn(14) {
			switch kind {
			case 0:
				at = chance.Int63n(2*most+1) - most
			case 1:
				at += step
			case 2:
				at, step = at+step, -step
			case 3:
				at = chance.Int63n(most + 1)
			case 4:
				at = -chance.Int63n(most + 1)
			}
			at = min(max(at, -most), most)
			list = append(list, at)
		}
	}
	return list[:n]
}

// sizesOf are those of these numbers, without their signs.
func sizesOf(list []int64) []int64 {
	var out []int64
	for _, n := range list {
		out = append(out, max(n, -n))
	}
	return out
}

// allCharts are all lists of n of these numbers.
func allCharts(n int, of ...int64) [][]int64 {
	lists := [][]int64{nil}
	for range n {
		var longer [][]int64
		for _, list := range lists {
			for _, number := range of {
				longer = append(longer, append(slices.Clone(list), number))
			}
		}
		lists = longer
	}
	return lists
}

// chartEnds are the bounds of chapter 16 and what lies beside them.
func chartEnds() []int64 {
	list := numbers(0, 1, 2, 3, 63, 64, 65, 199, 200, 201, 999, 1000, 1001, 99999, 100000, 100001, 999999, 1000000, 1000001, 1<<32, wide, 1<<62, greatestInt-1, greatestInt)
	for _, n := range list {
		list = append(list, -n)
	}
	return append(list, leastInt)
}

// chartCase is a list of numbers and its fault.
type chartCase struct {
	name string
	list []int64
	code int64
}

func chartCases() []chartCase {
	return []chartCase{
		{"no list", nil, impl.OK},
		{"no number", numbers(), impl.OK},
		{"one", numbers(5), impl.OK},
		{"one less than MaxChart", longer(numbers(1, 2), 199), impl.OK},
		{"MaxChart", longer(numbers(1, 2), 200), impl.OK},
		{"one more", longer(numbers(1, 2), 201), impl.ErrMany},
		{"far too many", longer(numbers(1), 100000), impl.ErrMany},
		{"one more, all beyond", longer(numbers(mostCharted+1), 201), impl.ErrMany},
		{"one more, the first beyond", append(numbers(-mostCharted-1), longer(numbers(1), 200)...), impl.ErrMany},
		{"one more, the last beyond", append(longer(numbers(1), 200), mostCharted+1), impl.ErrMany},
		{"one more, all the least", longer(numbers(leastInt), 201), impl.ErrMany},
		{"MaxChart, the last beyond", append(longer(numbers(1), 199), mostCharted+1), impl.ErrRange},
		{"MaxChart, the first beyond", append(numbers(-mostCharted-1), longer(numbers(1), 199)...), impl.ErrRange},
		{"MaxChart at the least bound", longer(numbers(-mostCharted), 200), impl.OK},
		{"MaxChart at the greatest bound", longer(numbers(mostCharted), 200), impl.OK},
		{"at both bounds", numbers(-mostCharted, mostCharted), impl.OK},
		{"one below", numbers(-mostCharted - 1), impl.ErrRange},
		{"one above", numbers(mostCharted + 1), impl.ErrRange},
		{"one below behind good ones", numbers(1, 2, -mostCharted-1), impl.ErrRange},
		{"one above between good ones", numbers(1, mostCharted+1, 2), impl.ErrRange},
		{"the least", numbers(0, leastInt), impl.ErrRange},
		{"the greatest", numbers(0, greatestInt), impl.ErrRange},
	}
}
