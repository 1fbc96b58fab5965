package tests

import (
	"math/big"
	"math/rand"
	"testing"

	"loop.example/g00057/impl"
)

// fourMarks lie so around the middle that each of the four sums of a proof hangs on one fraction of the model alone.
func fourMarks() []impl.Mark {
	return marks(mark(1, 0, 0, 0), mark(0, 1, 0, 0), mark(-1, 0, 0, 0), mark(0, -1, 0, 0))
}

// cornerMarks lie in the corners, all with one shift but the last.
func cornerMarks(n int, dx int64, dy int64, last impl.Mark) []impl.Mark {
	var list []impl.Mark
	for i := range n {
		list = append(list, mark(numbers(50, -50, -50, 50)[i%4], numbers(50, 50, -50, -50)[i%4], dx, dy))
	}
	list[n-1] = last
	return list
}

// metBy has at these places the shifts that a model of whole numbers says.
func metBy(m [4]int64, places ...[2]int64) []impl.Mark {
	var list []impl.Mark
	for _, p := range places {
		list = append(list, mark(p[0], p[1], m[0]+m[2]*p[0]-m[3]*p[1], m[1]+m[3]*p[0]+m[2]*p[1]))
	}
	return list
}

func checkFitted(t *testing.T, what string, list []impl.Mark, want impl.ModelResult) {
	t.Helper()
	if got := impl.FitModel(list); got != want {
		t.Errorf("%s, %s: %v, want %v", what, brief(list), got, want)
	}
	if got := fitWant(list); got != want {
		t.Errorf("%s, %s, plainly: %v, want %v", what, brief(list), got, want)
	}
}

func TestFitModelByHand(t *testing.T) {
	for _, c := range []struct {
		name string
		list []impl.Mark
		want impl.ModelResult
	}{
		{"nothing", metBy([4]int64{}, [2]int64{0, 0}, [2]int64{1, 1}), fitted(wholeModel(0, 0, 0, 0))},
		{"across", marks(mark(0, 0, 5, 0), mark(3, 4, 5, 0)), fitted(wholeModel(5, 0, 0, 0))},
		{"upward", marks(mark(0, 0, 0, -5), mark(3, 4, 0, -5)), fitted(wholeModel(0, -5, 0, 0))},
		{"greater", marks(mark(3, 4, 6, 8), mark(-1, 2, -2, 4)), fitted(wholeModel(0, 0, 2, 0))},
		{"smaller", marks(mark(3, 4, -3, -4), mark(-1, 2, 1, -2)), fitted(wholeModel(0, 0, -1, 0))},
		{"turned against the clock", marks(mark(1, 0, 0, 1), mark(0, 1, -1, 0)), fitted(wholeModel(0, 0, 0, 1))},
		{"turned with the clock", marks(mark(1, 0, 0, -1), mark(0, 1, 1, 0)), fitted(wholeModel(0, 0, 0, -1))},
		{"apart in X alone", marks(mark(0, 5, 0, 0), mark(1, 5, 0, 1)), fitted(wholeModel(5, 0, 0, 1))},
		{"apart in Y alone", marks(mark(5, 0, 0, 0), mark(5, 1, 0, 1)), fitted(wholeModel(-5, 0, 1, 0))},
		{"all together", metBy([4]int64{7, -9, 3, -2}, [2]int64{1, 2}, [2]int64{-5, 4}, [2]int64{11, -8}), fitted(wholeModel(7, -9, 3, -2))},
		{"halves", marks(mark(0, 0, 0, 0), mark(2, 0, 1, 0)), fitted(model(asFrac(0), asFrac(0), ratio(1, 2), asFrac(0)))},
		{"what none meets", marks(mark(0, 0, 0, 0), mark(1, 0, 1, 0), mark(2, 0, 0, 0)), fitted(model(ratio(1, 3), asFrac(0), asFrac(0), asFrac(0)))},
		{"what none meets, twice at one place", marks(mark(0, 0, 0, 0), mark(0, 0, 1, 2), mark(1, 0, 4, 6)), fitted(model(ratio(1, 2), asFrac(1), ratio(7, 2), asFrac(5)))},
		{"the ends of the bounds", marks(mark(-50, -50, -1000, -1000), mark(50, 50, 1000, 1000)), fitted(wholeModel(0, 0, 20, 0))},
		{"the ends of the bounds, turned", marks(mark(-50, 50, -1000, -1000), mark(50, -50, 1000, 1000)), fitted(wholeModel(0, 0, 0, 20))},
		{"close by, far out", marks(mark(50, 50, 1000, 0), mark(49, 50, -1000, 0)), fitted(wholeModel(-99000, -100000, 2000, 0))},
		{"across leaves the bounds", cornerMarks(18, 1000, 0, mark(-49, -50, 990, 0)), fitCode(impl.ErrRange)},
		{"upward leaves the bounds", cornerMarks(18, 0, 1000, mark(-49, -50, 0, 990)), fitCode(impl.ErrRange)},
		{"across and upward leave the bounds", cornerMarks(18, 1000, -1000, mark(-49, -50, 991, -990)), fitCode(impl.ErrRange)},
	} {
		checkFitted(t, c.name, c.list, c.want)
	}
}

func TestFitModelFaults(t *testing.T) {
	for _, c := range markCases() {
		want := fitCode(c.code)
		if c.code == impl.OK {
			want = fitWant(c.list)
		}
		checkFitted(t, c.name, c.list, want)
	}
}

// Each number of a mark at its bounds and beyond: what is beyond is told, whatever the others are.
func TestFitModelAtEachBound(t *testing.T) {
	for most, places := range markFields(&impl.Mark{}) {
		for i := range places {
			for _, n := range overlayEnds() {
				list := marks(mark(0, 7, 0, 30), mark(1, -1, 1, -9), mark(2, 0, 2, 0))
				*markFields(&list[1])[most][i] = n
				checkFitted(t, "an end", list, fitWant(list))
			}
		}
	}
}

// Every pair of marks whose four numbers all are at a bound.
func TestFitModelOfAllCorners(t *testing.T) {
	corner := func(bits int) impl.Mark {
		at := func(i int, most int64) int64 { return most * (2*int64(bits>>i&1) - 1) }
		return mark(at(0, 50), at(1, 50), at(2, 1000), at(3, 1000))
	}
	met := map[int64]int{}
	for i := range 256 {
		list := marks(corner(i%16), corner(i/16))
		got := impl.FitModel(list)
		checkFitted(t, "two corners", list, fitWant(list))
		met[got.Code]++
		if got.Code == impl.OK && !impl.CheckFit(list, got.Model) {
			t.Errorf("%v: %v has no proof", list, got)
		}
	}
	if met[impl.OK] != 192 || met[impl.ErrForm] != 64 {
		t.Errorf("the codes are %v", met)
	}
}

// Every list of two and of three marks of 0 and 1.
func TestFitModelOfAllSmall(t *testing.T) {
	small := func(bits int) impl.Mark {
		return mark(int64(bits&1), int64(bits>>1&1), int64(bits>>2&1), int64(bits>>3&1))
	}
	for i := range 16 * 16 * 16 {
		list := marks(small(i%16), small(i/16%16), small(i/256))
		for _, list := range [][]impl.Mark{list, list[:2]} {
			want := fitWant(list)
			if got := impl.FitModel(list); got != want {
				t.Errorf("%v: %v, want %v", list, got, want)
			}
			if got := impl.CheckFit(list, want.Model); got != (want.Code == impl.OK) {
				t.Errorf("%v: the proof of %v is %v", list, want, got)
			}
		}
	}
}

// What a model says of places is what is fitted to it there, without a miss.
func TestFitModelFindsTheModel(t *testing.T) {
	chance := rand.New(rand.NewSource(123))
	some := func(most int64) int64 { return chance.Int63n(2*most+1) - most }
	for i := range 600 {
		parts := [4]int64{some(200), some(200), some(7), some(7)}
		for j := range parts {
			parts[j] *= int64(i >> j & 1)
		}
		var places [][2]int64
		for range 2 + i%19 {
			places = append(places, [2]int64{some(50), some(50)})
		}
		list := metBy(parts, places...)
		if impl.MarksFault(list) != impl.OK {
			continue
		}
		m := wholeModel(parts[0], parts[1], parts[2], parts[3])
		checkFitted(t, "met", list, fitted(m))
		if miss := impl.MissOf(list, m); miss != fracTold(asFrac(0)) || !impl.CheckFit(list, m) {
			t.Errorf("%v misses by %v", m, miss)
		}
	}
}

// exactMiss is the sum of the squares of what is left, of any size.
func exactMiss(list []impl.Mark, m [4]*big.Rat) *big.Rat {
	var r reckoning
	sum := new(big.Rat)
	for _, at := range list {
		x, y := number(at.X), number(at.Y)
		across := r.total(number(at.Dx), minus(m[0]), minus(r.times(m[2], x)), r.times(m[3], y))
		upward := r.total(number(at.Dy), minus(m[1]), minus(r.times(m[3], x)), minus(r.times(m[2], y)))
		sum = r.total(sum, r.times(across, across), r.times(upward, upward))
	}
	return sum
}

func exactModel(m impl.Model) [4]*big.Rat {
	return [4]*big.Rat{exactOf(m.Sx), exactOf(m.Sy), exactOf(m.K), exactOf(m.R)}
}

// No model misses by less, whichever of its fractions is turned, and however little.
func TestNoModelFitsBetter(t *testing.T) {
	chance := rand.New(rand.NewSource(124))
	for i := range 150 {
		list := someMarks(chance, 2+i%19, numbers(2, 9, 50)[i%3], numbers(3, 60, 1000)[i/3%3])
		got := impl.FitModel(list)
		if got.Code != impl.OK {
			t.Fatalf("%v: %v", list, got)
		}
		best := exactMiss(list, exactModel(got.Model))
		for j := range 48 {
			other := exactModel(got.Model)
			off := []*big.Rat{big.NewRat(1, 1000000000), big.NewRat(1, 1000), number(1), exactOf(someFrac(chance, 90, 9))}[j/4%4]
			other[j%4] = new(big.Rat).Add(other[j%4], off)
			if j >= 16 {
				other[(j+1)%4] = new(big.Rat).Sub(other[(j+1)%4], off)
			}
			if j >= 32 {
				other[(j+2)%4] = new(big.Rat).Add(other[(j+2)%4], big.NewRat(1, int64(j)))
			}
			if off.Sign() != 0 && exactMiss(list, other).Cmp(best) <= 0 {
				t.Errorf("%v: %v misses by no more than %v", list, other, got)
			}
		}
		if told := impl.MissOf(list, got.Model); told.Code == impl.OK && exactOf(told.Frac).Cmp(best) != 0 {
			t.Errorf("%v: %v misses by %v, not by %v", list, got, best, told)
		}
	}
}

func TestSomeFits(t *testing.T) {
	chance := rand.New(rand.NewSource(125))
	met := map[int64]int{}
	for i := range 3000 {
		list := someMarks(chance, 2+i%19, numbers(1, 7, 50)[i%3], numbers(2, 90, 1000)[i/3%3])
		if i%5 == 0 {
			far := func() int64 { return 44 + chance.Int63n(7) }
			list = cornerMarks(16+i%4, 1000, -999, mark(far(), -far(), 1000-chance.Int63n(9), chance.Int63n(9)))
		}
		want := fitWant(list)
		checkFitted(t, "some", list, want)
		met[want.Code]++
	}
	if min(met[impl.OK], met[impl.ErrRange]) < 50 {
		t.Errorf("the codes are %v", met)
	}
}
