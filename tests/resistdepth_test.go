package tests

import (
	"math/rand"
	"runtime"
	"sync"
	"testing"

	"loop.example/g00057/impl"
)

func TestExposeDepthByHand(t *testing.T) {
	for _, c := range []struct {
		name          string
		rows          [][]int64
		share, layers int64
		want          impl.DepthResult
	}{
		{"halves", grid(numbers(1000)), 128, 3, depths(grid(numbers(125)), grid(numbers(500)), grid(numbers(250)), grid(numbers(125)))},
		{"halves that are not whole", grid(numbers(7)), 128, 3, depths(grid(numbers(1)), grid(numbers(3)), grid(numbers(2)), grid(numbers(1)))},
		{"half of 1", grid(numbers(1)), 128, 2, depths(grid(numbers(1)), grid(numbers(0)), grid(numbers(0)))},
		{"none", grid(numbers(7, 0)), 0, 2, depths(grid(numbers(7, 0)), grid(numbers(0, 0)), grid(numbers(0, 0)))},
		{"all", grid(numbers(7, 0)), 256, 2, depths(grid(numbers(0, 0)), grid(numbers(7, 0)), grid(numbers(0, 0)))},
		{"the least share", grid(numbers(255, 256, 511, 512)), 1, 1, depths(grid(numbers(255, 255, 510, 510)), grid(numbers(0, 1, 1, 2)))},
		{"the least share, twice", grid(numbers(256, 257)), 1, 2, depths(grid(numbers(255, 255)), grid(numbers(1, 1)), grid(numbers(0, 1)))},
		{"nearly all", grid(numbers(1, 2, 256, 257)), 255, 1, depths(grid(numbers(1, 1, 1, 2)), grid(numbers(0, 1, 255, 255)))},
		{"nearly all of the greatest", grid(numbers(mostValue)), 255, 3,
			depths(grid(numbers(1)), grid(numbers(996093)), grid(numbers(3891)), grid(numbers(15)))},
		{"two rows", grid(numbers(4, 8), numbers(12, 100)), 64, 2,
			depths(grid(numbers(3, 5), numbers(7, 57)), grid(numbers(1, 2), numbers(3, 25)), grid(numbers(0, 1), numbers(2, 18)))},
	} {
		checkDepths(t, c.name, impl.ExposeDepth(c.rows, c.share, c.layers), c.want)
		checkDepths(t, c.name+", plainly", exposeWant(c.rows, c.share, c.layers), c.want)
	}
}

func TestExposeDepthFaults(t *testing.T) {
	good := grid(numbers(9, 9))
	for _, c := range []struct {
		name          string
		rows          [][]int64
		share, layers int64
		code          int64
	}{
		{"the share -1", good, -1, 1, impl.ErrRange},
		{"the share 257", good, 257, 1, impl.ErrRange},
		{"no layers", good, 1, 0, impl.ErrRange},
		{"layers below 0", good, 1, -1, impl.ErrRange},
		{"nine layers", good, 1, 9, impl.ErrRange},
		{"both", good, 257, 9, impl.ErrRange},
		{"no rows, the share -1", nil, -1, 1, impl.ErrForm},
		{"a wide row, the share 257", filled(1, 17, 1), 257, 1, impl.ErrMany},
		{"no rows, nine layers", nil, 1, 9, impl.ErrForm},
		{"a high grid, no layers", filled(17, 1, 1), 1, 0, impl.ErrMany},
		{"a wrong number, no layers", grid(numbers(-1)), 1, 0, impl.ErrRange},
	} {
		checkDepths(t, c.name, impl.ExposeDepth(c.rows, c.share, c.layers), depthCode(c.code))
		checkDepths(t, c.name+", plainly", exposeWant(c.rows, c.share, c.layers), depthCode(c.code))
	}
	for _, c := range append(gridCases(), gridCase{"above MaxValue", grid(numbers(mostValue + 1)), impl.ErrRange}) {
		want := depthCode(c.code)
		if c.code == impl.OK {
			want = exposeWant(c.rows, 99, 2)
		}
		checkDepths(t, c.name, impl.ExposeDepth(c.rows, 99, 2), want)
	}
}

func TestExposeDepthBounds(t *testing.T) {
	rows := grid(numbers(0, 1, 255, 256), numbers(257, 1000, mostValue-1, mostValue))
	for _, n := range append(resistEnds(), placesFrom(-2, 258)...) {
		for layers := int64(-1); layers <= 10; layers++ {
			checkDepths(t, "the share", impl.ExposeDepth(rows, n, layers), exposeWant(rows, n, layers))
		}
		for _, share := range numbers(-1, 0, 1, 100, 255, 256, 257) {
			checkDepths(t, "the layers", impl.ExposeDepth(rows, share, n), exposeWant(rows, share, n))
		}
	}
}

// What the layers take and what goes on is, in each place, what came.
func TestExposureKeepsItsBook(t *testing.T) {
	chance := rand.New(rand.NewSource(5))
	for i := range 1500 {
		size := someSizes()[i%len(someSizes())]
		rows := someGrid(chance, size[0], size[1], 1+chance.Int63n(mostValue))
		share, layers := chance.Int63n(257), 1+chance.Int63n(8)
		got := impl.ExposeDepth(rows, share, layers)
		checkDepths(t, "some", got, exposeWant(rows, share, layers))
		if got.Code != impl.OK || int64(len(got.Layers)) != layers {
			t.Fatalf("%s by %d in %d layers: %s", brief(rows), share, layers, brief(got))
		}
		for y, row := range rows {
			for x, came := range row {
				sum := got.Below[y][x]
				for _, layer := range got.Layers {
					sum += layer[y][x]
				}
				if sum != came {
					t.Fatalf("at %d %d came %d, and %d is in the book", x, y, came, sum)
				}
			}
		}
		if sum := totalOf(append(got.Layers, got.Below)...); impl.SumOf(rows) != value(sum) {
			t.Fatalf("in all %v came, and %d is in the book", impl.SumOf(rows), sum)
		}
	}
}

// What goes on behind some layers comes to the others.
func TestExposureInTwoGoes(t *testing.T) {
	chance := rand.New(rand.NewSource(6))
	for range 300 {
		rows := someGrid(chance, 1+chance.Intn(5), 1+chance.Intn(5), mostValue)
		share, first, second := chance.Int63n(257), 1+chance.Int63n(4), 1+chance.Int63n(4)
		top := impl.ExposeDepth(rows, share, first)
		rest := impl.ExposeDepth(top.Below, share, second)
		checkDepths(t, "two goes", depths(rest.Below, append(top.Layers, rest.Layers...)...), impl.ExposeDepth(rows, share, first+second))
	}
}

// However many workers there are, and however many calls at one time, the answer is one, and no worker stays.
func TestExposureDoesNotHangOnWorkers(t *testing.T) {
	chance := rand.New(rand.NewSource(7))
	rows := someGrid(chance, 16, 16, mostValue)
	want := exposeWant(rows, 77, 8)
	before := runtime.NumGoroutine()
	had := runtime.GOMAXPROCS(0)
	defer runtime.GOMAXPROCS(had)
	for _, processors := range []int{1, 2, had} {
		runtime.GOMAXPROCS(processors)
		var calls sync.WaitGroup
		for range 20 {
			calls.Go(func() {
				for range 20 {
					checkDepths(t, "at one time", impl.ExposeDepth(rows, 77, 8), want)
				}
			})
		}
		calls.Wait()
	}
	checkNoWorkerStays(t, before)
}
