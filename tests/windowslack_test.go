package tests

import (
	"math/rand"
	"slices"
	"testing"

	"loop.example/g00057/impl"
)

func checkCentre(t *testing.T, what string, w impl.WindowResult, want impl.FracResult) {
	t.Helper()
	if got := impl.CentreOf(w); got != want {
		t.Errorf("%s, %v: %v, want %v", what, w, got, want)
	}
	if got := centreWant(w); got != want {
		t.Errorf("%s, %v, plainly: %v, want %v", what, w, got, want)
	}
}

func TestCentreOfByHand(t *testing.T) {
	at := func(num int64, den int64) impl.FracResult {
		return impl.FracResult{Frac: impl.Frac{Num: num, Den: den}}
	}
	wrong := impl.FracResult{Code: impl.ErrForm}
	for _, c := range []struct {
		name string
		w    impl.WindowResult
		want impl.FracResult
	}{
		{"one column", window(1, box(0, 0, 1, 1)), at(0, 1)},
		{"one column further on", window(1, box(7, 0, 8, 1)), at(7, 1)},
		{"two columns", window(2, box(0, 0, 2, 1)), at(1, 2)},
		{"three columns", window(3, box(0, 0, 3, 1)), at(1, 1)},
		{"four columns", window(4, box(0, 0, 4, 1)), at(3, 2)},
		{"four columns further on", window(4, box(3, 0, 7, 1)), at(9, 2)},
		{"five columns further on", window(5, box(2, 0, 7, 1)), at(4, 1)},
		{"sixteen columns", window(16, box(0, 0, 16, 1)), at(15, 2)},
		{"rows turn nothing", window(6, box(1, 5, 3, 8)), at(3, 2)},
		{"one column below 0", window(1, box(-1, 0, 0, 1)), at(-1, 1)},
		{"two columns below 0", window(2, box(-2, 0, 0, 1)), at(-3, 2)},
		{"two columns around 0", window(2, box(-1, 0, 1, 1)), at(-1, 2)},
		{"three columns around 0", window(3, box(-1, 0, 2, 1)), at(0, 1)},
		{"rows below 0", window(1, box(3, -9, 4, -8)), at(3, 1)},
		{"Area turns nothing", window(leastInt, box(0, 0, 2, 1)), at(1, 2)},
		{"no Area", window(0, box(0, 0, 2, 1)), at(1, 2)},
		{"the widest", window(0, box(-10000, 0, 10000, 1)), at(-1, 2)},
		{"the first column", window(0, box(-10000, 0, -9999, 1)), at(-10000, 1)},
		{"the last column", window(0, box(9999, 0, 10000, 1)), at(9999, 1)},
		{"the first two columns", window(0, box(-10000, 0, -9998, 1)), at(-19999, 2)},
		{"the last two columns", window(0, box(9998, 0, 10000, 1)), at(19997, 2)},
		{"the highest", window(0, box(0, -10000, 1, 10000)), at(0, 1)},
		{"nothing", impl.WindowResult{}, wrong},
		{"a code", impl.WindowResult{Code: impl.ErrForm, Area: 1, Box: box(0, 0, 1, 1)}, wrong},
		{"another code", impl.WindowResult{Code: impl.ErrNone, Area: 1, Box: box(0, 0, 1, 1)}, wrong},
		{"no code at all", impl.WindowResult{Code: -1, Area: 1, Box: box(0, 0, 1, 1)}, wrong},
		{"the least code", impl.WindowResult{Code: leastInt, Area: 1, Box: box(0, 0, 1, 1)}, wrong},
		{"a code and no box", windowCode(impl.ErrRange), wrong},
		{"no columns", window(1, box(1, 0, 1, 1)), wrong},
		{"no rows", window(1, box(0, 1, 1, 1)), wrong},
		{"turned round across", window(1, box(2, 0, 1, 1)), wrong},
		{"turned round upward", window(1, box(0, 2, 1, 1)), wrong},
		{"too far left", window(1, box(-10001, 0, 1, 1)), wrong},
		{"too far below", window(1, box(0, -10001, 1, 1)), wrong},
		{"too far right", window(1, box(0, 0, 10001, 1)), wrong},
		{"too far above", window(1, box(0, 0, 1, 10001)), wrong},
		{"from the least to the greatest", window(1, box(leastInt, leastInt, greatestInt, greatestInt)), wrong},
		{"from the greatest to the least", window(1, box(greatestInt, greatestInt, leastInt, leastInt)), wrong},
	} {
		checkCentre(t, c.name, c.w, c.want)
	}
}

// Every box whose bounds are at and beyond the ends.
func TestCentreOfAllEnds(t *testing.T) {
	ends := append(edgePlaces(), 2, 3, -2)
	for _, x0 := range ends {
		for _, x1 := range ends {
			for _, y := range [][2]int64{{0, 1}, {1, 1}, {1, 0}, {-10000, 10000}, {-10001, 0}, {0, 10001}, {leastInt, greatestInt}} {
				w := window(1, box(x0, y[0], x1, y[1]))
				if got, want := impl.CentreOf(w), centreWant(w); got != want {
					t.Errorf("%v: %v, want %v", w, got, want)
				}
			}
		}
	}
}

// The centre of a window is as far from its first column as from its last.
func TestCentresOfWindows(t *testing.T) {
	chance := rand.New(rand.NewSource(108))
	for i := range 300 {
		w := impl.LargestWindow(somePass(chance, 1+chance.Intn(8), 1+chance.Intn(8), 3+i%6))
		got := impl.CentreOf(w)
		if got != centreWant(w) {
			t.Errorf("%v: %v, want %v", w, got, centreWant(w))
		}
		if w.Code == impl.OK && 2*got.Frac.Num != got.Frac.Den*(w.Box.X0+w.Box.X1-1) {
			t.Errorf("%v: %v is not in the middle", w, got)
		}
	}
}

func checkSlack(t *testing.T, what string, sizes [][]int64, w impl.WindowResult, wanted int64, want impl.ShapeInt) {
	t.Helper()
	if got := impl.SlackOf(sizes, w, wanted); got != want {
		t.Errorf("%s, %s, %v, %d: %v, want %v", what, brief(sizes), w, wanted, got, want)
	}
	if got := slackWant(sizes, w, wanted); got != want {
		t.Errorf("%s, %s, %v, %d, plainly: %v, want %v", what, brief(sizes), w, wanted, got, want)
	}
}

func TestSlackOfByHand(t *testing.T) {
	sizes := grid(numbers(10, 12, 99), numbers(7, 11, 0), numbers(mostValue, 50, 40))
	four, all := window(4, box(0, 0, 2, 2)), window(9, box(0, 0, 3, 3))
	for _, c := range []struct {
		name string
		w    impl.WindowResult
		want int64
		told impl.ShapeInt
	}{
		{"below and above", four, 10, value(3)},
		{"all above", four, 5, value(7)},
		{"all below", four, 20, value(13)},
		{"as far both ways", window(2, box(0, 0, 2, 1)), 11, value(1)},
		{"one size at want", window(1, box(1, 1, 2, 2)), 11, value(0)},
		{"one size above it", window(1, box(1, 1, 2, 2)), 10, value(1)},
		{"one size below it", window(1, box(1, 1, 2, 2)), 12, value(1)},
		{"the first place", window(1, box(0, 0, 1, 1)), 4, value(6)},
		{"the last place", window(1, box(2, 2, 3, 3)), 4, value(36)},
		{"the first row", window(3, box(0, 0, 3, 1)), 10, value(89)},
		{"the last column", window(3, box(2, 0, 3, 3)), 10, value(89)},
		{"all", all, 10, value(mostValue - 10)},
		{"want is 0", all, 0, value(mostValue)},
		{"want is 0, and so is the size", window(1, box(2, 1, 3, 2)), 0, value(0)},
		{"want is MaxValue", four, mostValue, value(mostValue - 7)},
		{"want is MaxValue, and a size is 0", window(1, box(2, 1, 3, 2)), mostValue, value(mostValue)},
		{"want is MaxValue, and so is the size", window(1, box(0, 2, 1, 3)), mostValue, value(0)},
		{"want is -1", four, -1, valueCode(impl.ErrRange)},
		{"want is above MaxValue", four, mostValue + 1, valueCode(impl.ErrRange)},
		{"want is the least", four, leastInt, valueCode(impl.ErrRange)},
		{"want is the greatest", four, greatestInt, valueCode(impl.ErrRange)},
		{"Area turns nothing", window(greatestInt, four.Box), 10, value(3)},
		{"no Area", window(0, four.Box), 10, value(3)},
		{"a code", impl.WindowResult{Code: impl.ErrNone, Area: 4, Box: four.Box}, 10, valueCode(impl.ErrForm)},
		{"no code at all", impl.WindowResult{Code: -1, Area: 4, Box: four.Box}, 10, valueCode(impl.ErrForm)},
		{"the greatest code", impl.WindowResult{Code: greatestInt, Area: 4, Box: four.Box}, 10, valueCode(impl.ErrForm)},
		{"nothing", impl.WindowResult{}, 10, valueCode(impl.ErrForm)},
		{"no columns", window(4, box(1, 0, 1, 2)), 10, valueCode(impl.ErrForm)},
		{"no rows", window(4, box(0, 1, 2, 1)), 10, valueCode(impl.ErrForm)},
		{"turned round across", window(4, box(2, 0, 0, 2)), 10, valueCode(impl.ErrForm)},
		{"turned round upward", window(4, box(0, 2, 2, 0)), 10, valueCode(impl.ErrForm)},
		{"left of it in part", window(4, box(-1, 0, 1, 2)), 10, valueCode(impl.ErrForm)},
		{"below it in part", window(4, box(0, -1, 2, 1)), 10, valueCode(impl.ErrForm)},
		{"right of it in part", window(4, box(2, 0, 4, 2)), 10, valueCode(impl.ErrForm)},
		{"above it in part", window(4, box(0, 2, 2, 4)), 10, valueCode(impl.ErrForm)},
		{"right of it", window(4, box(3, 0, 4, 1)), 10, valueCode(impl.ErrForm)},
		{"above it", window(4, box(0, 3, 1, 4)), 10, valueCode(impl.ErrForm)},
		{"from the least to the greatest", window(4, box(leastInt, leastInt, greatestInt, greatestInt)), 10, valueCode(impl.ErrForm)},
		{"from the greatest to the least", window(4, box(greatestInt, greatestInt, leastInt, leastInt)), 10, valueCode(impl.ErrForm)},
		{"a code, and want is -1", impl.WindowResult{Code: impl.ErrNone, Area: 4, Box: four.Box}, -1, valueCode(impl.ErrForm)},
		{"no box, and want is -1", impl.WindowResult{}, -1, valueCode(impl.ErrForm)},
		{"not within, and want is too great", window(4, box(2, 0, 4, 2)), mostValue + 1, valueCode(impl.ErrForm)},
	} {
		checkSlack(t, c.name, sizes, c.w, c.want, c.told)
	}
}

// The fault of a grid is told ahead of a window that is none, and of want.
func TestSlackOfFaults(t *testing.T) {
	one := window(1, box(0, 0, 1, 1))
	for _, c := range gridFaultCases() {
		for _, w := range []impl.WindowResult{one, {}, windowCode(impl.ErrNone), window(17, box(0, 0, 17, 17)), window(1, box(-1, 0, 1, 1))} {
			for _, wanted := range numbers(-1, 0, mostValue, mostValue+1) {
				want := valueCode(c.code)
				if c.code == impl.OK {
					want = slackWant(c.rows, w, wanted)
				}
				checkSlack(t, c.name, c.rows, w, wanted, want)
			}
		}
	}
}

// Every box in and around a grid of two rows of three, no two sizes of which are alike.
func TestSlackOfAllBoxes(t *testing.T) {
	sizes := grid(numbers(3, 14, 0), numbers(90, 26, 7))
	met := map[int64]int{}
	for i := range 6 * 5 * 6 * 5 {
		w := window(0, box(int64(i%6-1), int64(i/6%5-1), int64(i/30%6-1), int64(i/180-1)))
		for _, wanted := range numbers(-1, 0, 10, 50, 95, mostValue, mostValue+1) {
			want := slackWant(sizes, w, wanted)
			checkSlack(t, "a box", sizes, w, wanted, want)
			met[want.Code]++
		}
	}
	if met[impl.OK] != 18*5 || met[impl.ErrRange] != 18*2 {
		t.Errorf("the codes are %v", met)
	}
}

func TestSomeSlacks(t *testing.T) {
	chance := rand.New(rand.NewSource(109))
	for i := range 400 {
		size := someSizes()[i%(len(someSizes())-1)]
		sizes := someGrid(chance, size[0], size[1], numbers(1, 20, mostValue)[i%3])
		list := allBoxes(sizes)
		w := window(0, list[chance.Intn(len(list))])
		for _, wanted := range numbers(0, 1, 10, chance.Int63n(mostValue), mostValue) {
			checkSlack(t, "some", sizes, w, wanted, slackWant(sizes, w, wanted))
		}
	}
	checkSlack(t, "the greatest", filled(16, 16, mostValue), window(256, box(0, 0, 16, 16)), 0, value(mostValue))
}

// What passes within a distance of want has no more slack than it; from a map of sizes to its window, and back.
func TestSlackOfWindows(t *testing.T) {
	chance := rand.New(rand.NewSource(110))
	found := 0
	for range 300 {
		sizes := someGrid(chance, 1+chance.Intn(8), 1+chance.Intn(8), 40)
		wanted, off := 5+chance.Int63n(30), chance.Int63n(20)
		w := impl.LargestWindow(impl.PassMap(sizes, wanted-off, wanted+off).Rows)
		slack := impl.SlackOf(sizes, w, wanted)
		switch {
		case w.Code == impl.ErrNone:
			checkValue(t, "no window", slack, valueCode(impl.ErrForm))
		case slack.Code != impl.OK || slack.Value > off:
			t.Errorf("%v, %d off %d: the slack is %v", sizes, wanted, off, slack)
		default:
			found++
			if in := numbersIn(sizes, w.Box); !slices.Contains(in, wanted-slack.Value) && !slices.Contains(in, wanted+slack.Value) {
				t.Errorf("%v: no size is %d off %d", in, slack.Value, wanted)
			}
		}
	}
	if found < 100 {
		t.Errorf("%d windows were found", found)
	}
}
