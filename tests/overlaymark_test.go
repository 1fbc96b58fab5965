package tests

import (
	"math/rand"
	"slices"
	"testing"

	"loop.example/g00057/impl"
)

// markCase is a list of marks and its fault.
type markCase struct {
	name string
	list []impl.Mark
	code int64
}

// apartMarks are n marks without a fault.
func apartMarks(n int) []impl.Mark {
	var list []impl.Mark
	for i := range int64(n) {
		list = append(list, mark(i, -i, 3*i, 7-i))
	}
	return list
}

func samePlace(n int, x int64, y int64) []impl.Mark {
	var list []impl.Mark
	for i := range int64(n) {
		list = append(list, mark(x, y, i, -i))
	}
	return list
}

func markCases() []markCase {
	return []markCase{
		{"no list", nil, impl.ErrForm},
		{"no mark", marks(), impl.ErrForm},
		{"one mark", apartMarks(1), impl.ErrForm},
		{"two marks", apartMarks(2), impl.OK},
		{"three marks", apartMarks(3), impl.OK},
		{"MaxMarks", apartMarks(20), impl.OK},
		{"one more", apartMarks(21), impl.ErrMany},
		{"far too many", longer(apartMarks(20), 3000), impl.ErrMany},
		{"at every bound", marks(mark(-50, -50, -1000, -1000), mark(50, 50, 1000, 1000)), impl.OK},
		{"two at one place", samePlace(2, 0, 0), impl.ErrForm},
		{"two at another place", samePlace(2, -50, 50), impl.ErrForm},
		{"MaxMarks at one place", samePlace(20, 7, 8), impl.ErrForm},
		{"the same mark twice", marks(mark(1, 2, 3, 4), mark(1, 2, 3, 4)), impl.ErrForm},
		{"apart in X alone", marks(mark(0, 5, 0, 0), mark(1, 5, 0, 0)), impl.OK},
		{"apart in Y alone", marks(mark(5, 0, 0, 0), mark(5, 1, 0, 0)), impl.OK},
		{"apart in Dx and Dy alone", marks(mark(5, 5, 0, 0), mark(5, 5, 1, 1)), impl.ErrForm},
		{"X and Y changed", marks(mark(1, 2, 0, 0), mark(2, 1, 0, 0)), impl.OK},
		{"the same sum", marks(mark(3, 1, 0, 0), mark(1, 3, 0, 0)), impl.OK},
		{"the first apart", append(samePlace(1, 4, 3), samePlace(19, 3, 3)...), impl.OK},
		{"the last apart", append(samePlace(19, 3, 3), mark(3, 4, 0, 0)), impl.OK},

		{"one mark, X beyond", marks(mark(51, 0, 0, 0)), impl.ErrForm},
		{"21 marks, X beyond", append(marks(mark(51, 0, 0, 0)), apartMarks(20)...), impl.ErrMany},
		{"21 marks at one place", samePlace(21, 0, 0), impl.ErrMany},
		{"21 marks at one place beyond", samePlace(21, 51, 0), impl.ErrMany},
		{"one place, beyond", samePlace(2, 51, 0), impl.ErrRange},
		{"one place, Dx of the first beyond", marks(mark(0, 0, 1001, 0), mark(0, 0, 0, 0)), impl.ErrRange},
		{"one place, Dy of the last beyond", append(samePlace(19, 1, 1), mark(1, 1, 0, -1001)), impl.ErrRange},
	}
}

func TestMarksFaultByHand(t *testing.T) {
	for _, c := range markCases() {
		if got := impl.MarksFault(c.list); got != c.code {
			t.Errorf("%s: %d, want %d", c.name, got, c.code)
		}
		if got := marksFaultWant(c.list); got != c.code {
			t.Errorf("%s, plainly: %d, want %d", c.name, got, c.code)
		}
	}
}

// markFields are what a mark has, with how far each may go.
func markFields(m *impl.Mark) map[int64][]*int64 {
	return map[int64][]*int64{50: {&m.X, &m.Y}, 1000: {&m.Dx, &m.Dy}}
}

// Each number of each mark, at its bounds and beyond.
func TestMarksFaultAtEachBound(t *testing.T) {
	for at := range 3 {
		for most, places := range markFields(&impl.Mark{}) {
			for i := range places {
				for _, n := range overlayEnds() {
					list := marks(mark(0, 0, 0, 0), mark(1, 1, 1, 1), mark(2, 0, 2, 0))
					*markFields(&list[at])[most][i] = n
					want := impl.ErrRange * bit(n > most || n < -most)
					if got := impl.MarksFault(list); got != want {
						t.Errorf("%v: %d, want %d", list, got, want)
					}
				}
			}
		}
	}
}

// Every list of up to three marks whose places are all about 0.
func TestMarksFaultOfAllSmall(t *testing.T) {
	at := func(i int) impl.Mark { return mark(int64(i%3), int64(i/3%3), int64(i%2), 1) }
	for i := range 9 * 9 * 9 {
		for n := range 4 {
			list := marks(at(i), at(i/9), at(i/81))[:n]
			if got, want := impl.MarksFault(list), marksFaultWant(list); got != want {
				t.Errorf("%v: %d, want %d", list, got, want)
			}
		}
	}
}

func checkModelFault(t *testing.T, m impl.Model, want int64) {
	t.Helper()
	if got := impl.ModelFault(m); got != want {
		t.Errorf("%v: %d, want %d", m, got, want)
	}
	if got := modelFaultWant(m); got != want {
		t.Errorf("%v, plainly: %d, want %d", m, got, want)
	}
}

func TestModelFault(t *testing.T) {
	checkModelFault(t, impl.Model{}, impl.ErrForm)
	checkModelFault(t, wholeModel(0, 0, 0, 0), impl.OK)
	for i := range 4 {
		for _, f := range rightFracs() {
			checkModelFault(t, changed(wholeModel(0, 1, 2, 3), i, f), impl.OK)
		}
		for _, f := range wrongFracs() {
			checkModelFault(t, changed(wholeModel(0, 1, 2, 3), i, f), impl.ErrForm)
			checkModelFault(t, model(f, f, f, f), impl.ErrForm)
		}
	}
}

func checkShifts(t *testing.T, what string, m impl.Model, x int64, y int64, want impl.FracPair) {
	t.Helper()
	if got := impl.PredictAt(m, x, y); got != want {
		t.Errorf("%s, %v at %d, %d: %v, want %v", what, m, x, y, got, want)
	}
	if got := predictWant(m, x, y); got != want {
		t.Errorf("%s, %v at %d, %d, plainly: %v, want %v", what, m, x, y, got, want)
	}
}

func TestPredictAtByHand(t *testing.T) {
	const most = impl.MaxNum
	for _, c := range []struct {
		name string
		m    impl.Model
		x, y int64
		want impl.FracPair
	}{
		{"nothing", wholeModel(0, 0, 0, 0), 3, 5, shifts(asFrac(0), asFrac(0))},
		{"a shift", wholeModel(7, -9, 0, 0), 3, 5, shifts(asFrac(7), asFrac(-9))},
		{"a size", wholeModel(0, 0, 2, 0), 3, 5, shifts(asFrac(6), asFrac(10))},
		{"a size, to the left", wholeModel(0, 0, 2, 0), -3, 5, shifts(asFrac(-6), asFrac(10))},
		{"a size, below", wholeModel(0, 0, 2, 0), 3, -5, shifts(asFrac(6), asFrac(-10))},
		{"a size below 0", wholeModel(0, 0, -2, 0), 3, 5, shifts(asFrac(-6), asFrac(-10))},
		{"a turn", wholeModel(0, 0, 0, 2), 3, 5, shifts(asFrac(-10), asFrac(6))},
		{"a turn, to the left", wholeModel(0, 0, 0, 2), -3, 5, shifts(asFrac(-10), asFrac(-6))},
		{"a turn, below", wholeModel(0, 0, 0, 2), 3, -5, shifts(asFrac(10), asFrac(6))},
		{"a turn the other way", wholeModel(0, 0, 0, -2), 3, 5, shifts(asFrac(10), asFrac(-6))},
		{"all", wholeModel(100, 200, 2, 7), 3, 5, shifts(asFrac(100+6-35), asFrac(200+21+10))},
		{"fractions", model(ratio(1, 2), ratio(1, 3), ratio(1, 4), ratio(1, 6)), 2, 3, shifts(ratio(1, 2), ratio(17, 12))},
		{"in the middle", model(asFrac(1), asFrac(2), asFrac(most), ratio(1, most)), 0, 0, shifts(asFrac(1), asFrac(2))},
		{"as far right as may be", wholeModel(0, 0, 1, 0), 1000, 0, shifts(asFrac(1000), asFrac(0))},
		{"as far left as may be", wholeModel(0, 0, 1, 0), -1000, 0, shifts(asFrac(-1000), asFrac(0))},
		{"as far above as may be", wholeModel(0, 0, 1, 0), 0, 1000, shifts(asFrac(0), asFrac(1000))},
		{"as far below as may be", wholeModel(0, 0, 1, 0), 0, -1000, shifts(asFrac(0), asFrac(-1000))},
		{"too far right", wholeModel(0, 0, 0, 0), 1001, 0, shiftsCode(impl.ErrRange)},
		{"too far left", wholeModel(0, 0, 0, 0), -1001, 0, shiftsCode(impl.ErrRange)},
		{"too far above", wholeModel(0, 0, 0, 0), 0, 1001, shiftsCode(impl.ErrRange)},
		{"too far below", wholeModel(0, 0, 0, 0), 0, -1001, shiftsCode(impl.ErrRange)},
		{"a fault", impl.Model{}, 0, 0, shiftsCode(impl.ErrForm)},
		{"a fault, and too far", impl.Model{}, 1001, 0, shiftsCode(impl.ErrForm)},
		{"a fault, and a product that is not right", model(asFrac(0), ratio(2, 2), asFrac(most), asFrac(0)), 2, 0, shiftsCode(impl.ErrForm)},

		{"a product at the bound", wholeModel(0, 0, most/1000, 0), 1000, -1000, shifts(asFrac(most), asFrac(-most))},
		{"the product K x", wholeModel(0, 0, most, 0), 2, 0, shiftsCode(impl.ErrRange)},
		{"the product R y", wholeModel(0, 0, 0, most), 0, 2, shiftsCode(impl.ErrRange)},
		{"the product R x", wholeModel(0, 0, 0, most), 2, 0, shiftsCode(impl.ErrRange)},
		{"the product K y", wholeModel(0, 0, most, 0), 0, 2, shiftsCode(impl.ErrRange)},
		{"a product that a shift would bring back", wholeModel(-most, -most, most, 0), 2, 0, shiftsCode(impl.ErrRange)},
		{"two products that would bring each other back", wholeModel(0, 0, most, most), 2, 2, shiftsCode(impl.ErrRange)},
		{"the sum across", wholeModel(most, 0, 1, 0), 1, 0, shiftsCode(impl.ErrRange)},
		{"the difference across", wholeModel(most, 0, 0, 1), 0, -1, shiftsCode(impl.ErrRange)},
		{"the first sum upward", wholeModel(0, most, 0, 1), 1, 0, shiftsCode(impl.ErrRange)},
		{"the second sum upward", wholeModel(0, most, 1, 0), 0, 1, shiftsCode(impl.ErrRange)},
		{"across on the way, not at the end", wholeModel(most, 0, 1, 1), 1, 1, shiftsCode(impl.ErrRange)},
		{"across at the end, and on the way", wholeModel(most, 0, 1, 1), -1, -1, shifts(asFrac(most), asFrac(-2))},
		{"across on the way below, not at the end", wholeModel(-most, 0, 1, 1), -1, -1, shiftsCode(impl.ErrRange)},
		{"across at the end, and on the way below", wholeModel(-most, 0, 1, 1), 1, 1, shifts(asFrac(-most), asFrac(2))},
		{"upward on the way, not at the end", wholeModel(0, most, 1, 1), 1, -1, shiftsCode(impl.ErrRange)},
		{"upward at the end, and on the way", wholeModel(0, most, 1, 1), -1, 1, shifts(asFrac(-2), asFrac(most))},
		{"upward on the way below, not at the end", wholeModel(0, -most, 1, 1), -1, 1, shiftsCode(impl.ErrRange)},
		{"upward at the end, and on the way below", wholeModel(0, -most, 1, 1), 1, -1, shifts(asFrac(2), asFrac(-most))},

		{"parts of which MaxNum are one", model(ratio(1, 512), asFrac(0), ratio(1, 1953125), asFrac(0)), 1, 0, shifts(ratio(1953637, most), asFrac(0))},
		{"parts that are too small", model(ratio(1, 31622), asFrac(0), ratio(1, 31625), asFrac(0)), 1, 0, shiftsCode(impl.ErrRange)},
		{"parts that are small enough", model(ratio(1, 31622), asFrac(0), ratio(1, 31623), asFrac(0)), 1, 0, shifts(ratio(63245, 31622*31623), asFrac(0))},
		{"too small on the way, not at the end", model(ratio(1, 31627), asFrac(0), ratio(1, 31643), ratio(1, 31643)), 1, 1, shiftsCode(impl.ErrRange)},
	} {
		checkShifts(t, c.name, c.m, c.x, c.y, c.want)
	}
}

// A fault of the model is told ahead of a place that is too far, and that ahead of what is not right.
func TestPredictAtEachBound(t *testing.T) {
	for _, n := range overlayEnds() {
		for _, m := range []impl.Model{{}, wholeModel(1, 2, 3, 4), wholeModel(0, 0, 0, impl.MaxNum), model(ratio(1, 2), ratio(3, 4), ratio(5, 6), ratio(7, 12))} {
			for _, p := range [][2]int64{{n, 0}, {0, n}, {n, 1}, {-7, n}, {n, n}} {
				checkShifts(t, "an end", m, p[0], p[1], predictWant(m, p[0], p[1]))
			}
		}
	}
	for i := range 4 {
		for _, f := range wrongFracs() {
			for _, x := range numbers(0, 1000, 1001, leastInt) {
				checkShifts(t, "a fault", changed(wholeModel(1, 1, 1, 1), i, f), x, x, shiftsCode(impl.ErrForm))
			}
		}
	}
}

func TestSomePredictions(t *testing.T) {
	chance := rand.New(rand.NewSource(121))
	met := map[int64]int{}
	for i := range 12000 {
		m := someModel(chance, numbers(9, 4000, 1000000, impl.MaxNum)[i%4], numbers(1, 9, 900, 50000, impl.MaxNum)[i%5])
		x, y := chance.Int63n(2001)-1000, chance.Int63n(2001)-1000
		want := predictWant(m, x>>(i%10), y>>(i%7))
		checkShifts(t, "some", m, x>>(i%10), y>>(i%7), want)
		met[want.Code]++
	}
	if min(met[impl.OK], met[impl.ErrRange]) < 2000 {
		t.Errorf("the codes are %v", met)
	}
}

// Turning the place and the shifts by a quarter leaves size and turn as they are.
func TestPredictionsTurn(t *testing.T) {
	chance := rand.New(rand.NewSource(122))
	for range 500 {
		m := someModel(chance, 900, 12)
		x, y := chance.Int63n(41)-20, chance.Int63n(41)-20
		turned := model(ratio(-m.Sy.Num, m.Sy.Den), m.Sx, m.K, m.R)
		first, second := impl.PredictAt(m, x, y), impl.PredictAt(turned, -y, x)
		if second.X != ratio(-first.Y.Num, first.Y.Den) || second.Y != first.X {
			t.Errorf("%v at %d, %d: %v, and turned %v", m, x, y, first, second)
		}
		if !slices.Equal(numbers(first.Code, second.Code), numbers(0, 0)) {
			t.Errorf("%v at %d, %d: %v, and turned %v", m, x, y, first, second)
		}
	}
}
