package tests

import (
	"math/rand"
	"testing"

	"loop.example/g00057/impl"
)

func checkChartFault(t *testing.T, what string, list []int64, want int64) {
	t.Helper()
	if got := impl.ChartFault(list); got != want {
		t.Errorf("%s, %s: %d, want %d", what, brief(list), got, want)
	}
	if got := chartFaultWant(list); got != want {
		t.Errorf("%s, %s, plainly: %d, want %d", what, brief(list), got, want)
	}
}

func TestChartFaultByHand(t *testing.T) {
	for _, c := range chartCases() {
		checkChartFault(t, c.name, c.list, c.code)
	}
}

func TestChartFaultAtEachBound(t *testing.T) {
	for _, n := range chartEnds() {
		for at := range 4 {
			list := numbers(7, -8, 0, 9)
			list[at] = n
			checkChartFault(t, "an end", list, impl.ErrRange*bit(n < -1000000 || n > 1000000))
		}
	}
}

// However many there are, and wherever one stands that is too great or too small.
func TestChartFaultOfEveryLength(t *testing.T) {
	for n := range 205 {
		checkChartFault(t, "noughts", make([]int64, n), impl.ErrMany*bit(n > 200))
		for _, at := range numbersOf(0, n/2, n-1) {
			if n == 0 {
				continue
			}
			for _, far := range numbers(-1000001, 1000001) {
				list := make([]int64, n)
				list[at] = far
				checkChartFault(t, "one beyond", list, max(impl.ErrMany*bit(n > 200), impl.ErrRange*bit(n <= 200)))
			}
		}
	}
}

func TestChartFaultOfSomeLists(t *testing.T) {
	chance, ends, met := rand.New(rand.NewSource(170)), chartEnds(), map[int64]int{}
	for range 5000 {
		list := someChart(chance, 1+chance.Intn(210), mostCharted)
		if chance.Intn(2) == 0 {
			list[chance.Intn(len(list))] = ends[chance.Intn(len(ends))]
		}
		want := chartFaultWant(list)
		checkChartFault(t, "some", list, want)
		met[want]++
	}
	if min(met[impl.OK], met[impl.ErrMany], met[impl.ErrRange]) < 100 {
		t.Errorf("the codes are %v", met)
	}
}
