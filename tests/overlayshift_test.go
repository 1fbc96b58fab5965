package tests

import (
	"math/rand"
	"slices"
	"testing"

	"loop.example/g00057/impl"
)

func checkShift(t *testing.T, what string, a []int64, b []int64, most int64, want impl.ShapeInt) {
	t.Helper()
	if got := impl.ShiftOf(a, b, most); got != want {
		t.Errorf("%s, %s, %s, %d: %v, want %v", what, brief(a), brief(b), most, got, want)
	}
	if got := shiftWant(a, b, most); got != want {
		t.Errorf("%s, %s, %s, %d, plainly: %v, want %v", what, brief(a), brief(b), most, got, want)
	}
}

// peak is n noughts, but for one place.
func peak(n int, at int, size int64) []int64 {
	list := make([]int64, n)
	list[at] = size
	return list
}

func TestShiftOfByHand(t *testing.T) {
	for _, c := range []struct {
		name string
		a, b []int64
		most int64
		want int64
	}{
		{"the given test's", numbers(0, 1, 2), numbers(1, 2, 0), 2, -1},
		{"the same", numbers(1, 2, 3), numbers(1, 2, 3), 2, 0},
		{"b is later", peak(5, 1, 1), peak(5, 3, 1), 4, 2},
		{"b is earlier", peak(5, 3, 1), peak(5, 1, 1), 4, -2},
		{"too late for most", peak(5, 1, 1), peak(5, 3, 1), 1, 0},
		{"just not too late", peak(5, 1, 1), peak(5, 3, 1), 2, 2},
		{"just not too early", peak(5, 3, 1), peak(5, 1, 1), 2, -2},
		{"most is 0", numbers(1, 0), numbers(0, 9), 0, 0},
		{"most is 0, and the sum is below 0", numbers(1), numbers(-1), 0, 0},
		{"as late as can be", peak(200, 0, 1), peak(200, 100, 1), 100, 100},
		{"as early as can be", peak(200, 100, 1), peak(200, 0, 1), 100, -100},
		{"later than can be", peak(200, 0, 1), peak(200, 101, 1), 100, 0},
		{"one number each", numbers(1), numbers(1), 100, 0},
		{"b is longer", numbers(1, 2), numbers(0, 0, 0, 1, 2), 5, 3},
		{"a is longer", numbers(0, 0, 0, 1, 2), numbers(1, 2), 5, -3},
		{"b is longer, and earlier", numbers(0, 3, 1), numbers(3, 1, 0, 0, 0, 0), 5, -1},
		{"the greatest numbers", slices.Repeat(numbers(1000), 200), slices.Repeat(numbers(1000), 200), 100, 0},
		{"the least numbers", slices.Repeat(numbers(-1000), 200), slices.Repeat(numbers(-1000), 200), 100, 0},
		{"the most against the least", slices.Repeat(numbers(1000), 200), slices.Repeat(numbers(-1000), 200), 100, -100},

		{"no place has both, and else it is below 0", numbers(1), numbers(-1), 3, -1},
		{"no place has both, three off", numbers(1, 1, 1), numbers(-1, -1, -1), 9, -3},
		{"no place has both beyond b", numbers(1), numbers(-1, -1, -1), 9, -1},
		{"no place has both beyond a", numbers(1, 1, 1), numbers(-1), 9, 1},
		{"most is less than that", numbers(1, 1, 1), numbers(-1, -1, -1), 2, -2},
		{"all are 0", numbers(0, 0, 0), numbers(0, 0), 100, 0},
		{"a is 0", numbers(0), numbers(5, 6, 7), 100, 0},

		{"0 and 1 are as good", numbers(1), numbers(2, 2), 3, 0},
		{"0 and -1 are as good", numbers(2, 2), numbers(1), 3, 0},
		{"-1 and 1 are as good", numbers(0, 1, 0), numbers(1, 0, 1), 2, -1},
		{"-2 and 2 are as good", numbers(0, 0, 1, 0, 0), numbers(1, 0, 0, 0, 1), 4, -2},
		{"-2 and 1 are as good", numbers(0, 0, 1, 0), numbers(1, 0, 0, 1), 3, 1},
		{"-1 and 2 are as good", numbers(0, 1, 0, 0), numbers(1, 0, 0, 1), 3, -1},
		{"1 and 3 are as good", numbers(1), numbers(0, 5, 0, 5), 3, 1},
		{"-1 and -3 are as good", numbers(0, 5, 0, 5), numbers(1), 3, -1},
		{"2 is better than -1", numbers(0, 1, 0, 0), numbers(1, 0, 0, 2), 3, 2},
		{"-2 is better than 1", numbers(0, 0, 1, 0), numbers(2, 0, 0, 1), 3, -2},
		{"all shifts are as good", numbers(0, 0), numbers(1, 1), 100, 0},
	} {
		checkShift(t, c.name, c.a, c.b, c.most, value(c.want))
	}
}

func TestShiftOfFaults(t *testing.T) {
	few, most, more := numbers(1, 2), slices.Repeat(numbers(1), 200), slices.Repeat(numbers(1), 201)
	beyond := numbers(0, 1001)
	for _, c := range []struct {
		name string
		a, b []int64
		most int64
		code int64
	}{
		{"no a", nil, few, 1, impl.ErrForm},
		{"no b", few, nil, 1, impl.ErrForm},
		{"none", nil, nil, 1, impl.ErrForm},
		{"a is empty", numbers(), few, 1, impl.ErrForm},
		{"b is empty", few, numbers(), 1, impl.ErrForm},
		{"200 numbers", most, most, 1, impl.OK},
		{"201 in a", more, few, 1, impl.ErrMany},
		{"201 in b", few, more, 1, impl.ErrMany},
		{"far too many", longer(more, 100000), longer(more, 100000), 100, impl.ErrMany},
		{"most is -1", few, few, -1, impl.ErrRange},
		{"most is 0", few, few, 0, impl.OK},
		{"most is 100", few, few, 100, impl.OK},
		{"most is 101", few, few, 101, impl.ErrRange},
		{"most is the least", few, few, leastInt, impl.ErrRange},
		{"most is the greatest", few, few, greatestInt, impl.ErrRange},
		{"a number of a", beyond, few, 1, impl.ErrRange},
		{"a number of b", few, beyond, 1, impl.ErrRange},

		{"no a, 201 in b", nil, more, 1, impl.ErrForm},
		{"201 in a, no b", more, nil, 1, impl.ErrForm},
		{"no a, a number of b", nil, beyond, 1, impl.ErrForm},
		{"no b, and most", few, nil, 101, impl.ErrForm},
		{"201 in b, a number of a", beyond, more, 1, impl.ErrMany},
		{"201 in a, a number of it", append(numbers(-1001), most...), few, 1, impl.ErrMany},
		{"201 in a, and most", more, few, -1, impl.ErrMany},
		{"a number of a, and most", beyond, few, 101, impl.ErrRange},
	} {
		want := valueCode(c.code)
		if c.code == impl.OK {
			want = shiftWant(c.a, c.b, c.most)
		}
		checkShift(t, c.name, c.a, c.b, c.most, want)
	}
}

// Each number, wherever it stands, and most, at the bounds and beyond.
func TestShiftOfAtEachBound(t *testing.T) {
	for _, n := range overlayEnds() {
		want := impl.ErrRange * bit(n > 1000 || n < -1000)
		for at := range 3 {
			list := numbers(3, -2, 1)
			list[at] = n
			for _, got := range []impl.ShapeInt{impl.ShiftOf(list, numbers(1, 2), 3), impl.ShiftOf(numbers(1, 2), list, 3), impl.ShiftOf(list, list, 3)} {
				if got.Code != want {
					t.Errorf("%v: %v", list, got)
				}
			}
			checkShift(t, "in a", list, numbers(1, 2), 3, shiftWant(list, numbers(1, 2), 3))
			checkShift(t, "in b", numbers(1, 2), list, 3, shiftWant(numbers(1, 2), list, 3))
		}
		checkShift(t, "most", numbers(1, 2), numbers(3, 1), n, shiftWant(numbers(1, 2), numbers(3, 1), n))
	}
}

// Every two lists of one to three numbers of -1, 0 and 1, with every most up to 4.
func TestShiftOfAllSmall(t *testing.T) {
	var lists [][]int64
	for n := 1; n <= 3; n++ {
		for i := range []int{1, 3, 9, 27}[n] {
			lists = append(lists, numbers(int64(i%3-1), int64(i/3%3-1), int64(i/9-1))[:n])
		}
	}
	for _, a := range lists {
		for _, b := range lists {
			for most := range int64(5) {
				if got, want := impl.ShiftOf(a, b, most), shiftWant(a, b, most); got != want {
					t.Errorf("%v, %v, %d: %v, want %v", a, b, most, got, want)
				}
			}
		}
	}
}

func TestSomeShifts(t *testing.T) {
	chance := rand.New(rand.NewSource(131))
	for i := range 500 {
		a, b := someSignal(chance, 1+chance.Intn(40), numbers(1, 9, 1000)[i%3]), someSignal(chance, 1+chance.Intn(40), numbers(1, 9, 1000)[i%3])
		most := chance.Int63n(45)
		want := shiftWant(a, b, most)
		checkShift(t, "some", a, b, most, want)
		best := shiftSum(a, b, want.Value)
		for shift := -most; shift <= most; shift++ {
			if shiftSum(a, b, shift) > best {
				t.Errorf("%v, %v: %d fits better than %v", a, b, shift, want)
			}
		}
	}
	long := someSignal(chance, 200, 1000)
	checkShift(t, "as long as can be", long, slices.Concat(long[37:], long[:37]), 100, value(-37))
	checkShift(t, "as long as can be, the other way", slices.Concat(long[37:], long[:37]), long, 100, value(37))
}

// What is moved by some places is found again by these.
func TestShiftsAreFound(t *testing.T) {
	chance := rand.New(rand.NewSource(132))
	for i := range 200 {
		signal := someSignal(chance, 30, 500)
		by := i%100 + 1
		moved := append(make([]int64, by), signal...)
		checkShift(t, "later", signal, moved, 100, value(int64(by)))
		checkShift(t, "earlier", moved, signal, 100, value(-int64(by)))
	}
}
