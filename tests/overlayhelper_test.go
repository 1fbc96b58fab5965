package tests

import (
	"cmp"
	"math/big"
	"math/rand"
	"slices"
	"testing"

	"loop.example/g00057/impl"
)

func mark(x int64, y int64, dx int64, dy int64) impl.Mark {
	return impl.Mark{X: x, Y: y, Dx: dx, Dy: dy}
}

func marks(list ...impl.Mark) []impl.Mark {
	return list
}

func ratio(num int64, den int64) impl.Frac {
	return impl.Frac{Num: num, Den: den}
}

func asFrac(n int64) impl.Frac {
	return ratio(n, 1)
}

func asFracs(list ...int64) []impl.Frac {
	var out []impl.Frac
	for _, n := range list {
		out = append(out, asFrac(n))
	}
	return out
}

func fracs(list ...impl.Frac) []impl.Frac {
	return list
}

func equations(rows ...[]impl.Frac) [][]impl.Frac {
	return rows
}

func model(sx impl.Frac, sy impl.Frac, k impl.Frac, r impl.Frac) impl.Model {
	return impl.Model{Sx: sx, Sy: sy, K: k, R: r}
}

func wholeModel(sx int64, sy int64, k int64, r int64) impl.Model {
	return model(asFrac(sx), asFrac(sy), asFrac(k), asFrac(r))
}

// changed has another fraction in one place: of Sx, Sy, K and R.
func changed(m impl.Model, at int, f impl.Frac) impl.Model {
	*[4]*impl.Frac{&m.Sx, &m.Sy, &m.K, &m.R}[at] = f
	return m
}

func fitted(m impl.Model) impl.ModelResult {
	return impl.ModelResult{Model: m}
}

func fitCode(code int64) impl.ModelResult {
	return impl.ModelResult{Code: code}
}

func shifts(x impl.Frac, y impl.Frac) impl.FracPair {
	return impl.FracPair{X: x, Y: y}
}

func shiftsCode(code int64) impl.FracPair {
	return impl.FracPair{Code: code}
}

func solved(list ...impl.Frac) impl.LinesFit {
	return impl.LinesFit{List: list}
}

func solvedCode(code int64) impl.LinesFit {
	return impl.LinesFit{Code: code}
}

func fracTold(f impl.Frac) impl.FracResult {
	return impl.FracResult{Frac: f}
}

func fracCode(code int64) impl.FracResult {
	return impl.FracResult{Code: code}
}

// reckoning has sums, differences, products and quotients of numbers of any size; left tells that one of them was no
// right fraction.
type reckoning struct {
	left bool
}

func (r *reckoning) met(n *big.Rat) *big.Rat {
	r.left = r.left || answerOf(n).Code != impl.OK
	return n
}

func (r *reckoning) sum(a *big.Rat, b *big.Rat) *big.Rat {
	return r.met(new(big.Rat).Add(a, b))
}

func (r *reckoning) less(a *big.Rat, b *big.Rat) *big.Rat {
	return r.met(new(big.Rat).Sub(a, b))
}

func (r *reckoning) times(a *big.Rat, b *big.Rat) *big.Rat {
	return r.met(new(big.Rat).Mul(a, b))
}

func (r *reckoning) by(a *big.Rat, b *big.Rat) *big.Rat {
	return r.met(new(big.Rat).Quo(a, b))
}

// total is the sum of all, one after the other.
func (r *reckoning) total(list ...*big.Rat) *big.Rat {
	sum := new(big.Rat)
	for _, n := range list {
		sum = r.sum(sum, n)
	}
	return sum
}

func number(n int64) *big.Rat {
	return new(big.Rat).SetInt64(n)
}

func minus(n *big.Rat) *big.Rat {
	return new(big.Rat).Neg(n)
}

// isRight asks in numbers of any size.
func isRight(f impl.Frac) bool {
	return f.Den > 0 && answerOf(big.NewRat(f.Num, f.Den)) == fracTold(f)
}

func allRight(list ...impl.Frac) bool {
	return !slices.ContainsFunc(list, func(f impl.Frac) bool { return !isRight(f) })
}

func marksFaultWant(list []impl.Mark) int64 {
	var codes faults
	codes.wrong(impl.ErrForm, len(list) <= 1)
	codes.wrong(impl.ErrMany, len(list) >= 21)
	onePlace := true
	for _, m := range list {
		codes.wrong(impl.ErrRange, m.X <= -51, m.X >= 51, m.Y <= -51, m.Y >= 51, m.Dx <= -1001, m.Dx >= 1001, m.Dy <= -1001, m.Dy >= 1001)
		onePlace = onePlace && m.X == list[0].X && m.Y == list[0].Y
	}
	codes.wrong(impl.ErrForm, onePlace)
	return codes.first()
}

func modelFaultWant(m impl.Model) int64 {
	var codes faults
	codes.wrong(impl.ErrForm, !allRight(m.Sx, m.Sy, m.K, m.R))
	return codes.first()
}

// shiftAt is what a model without a fault says of a place, across and upward.
func (r *reckoning) shiftAt(m impl.Model, x int64, y int64) (*big.Rat, *big.Rat) {
	k, turn := exactOf(m.K), exactOf(m.R)
	across := r.less(r.sum(exactOf(m.Sx), r.times(k, number(x))), r.times(turn, number(y)))
	upward := r.sum(r.sum(exactOf(m.Sy), r.times(turn, number(x))), r.times(k, number(y)))
	return across, upward
}

func predictWant(m impl.Model, x int64, y int64) impl.FracPair {
	var codes faults
	codes.found(modelFaultWant(m))
	codes.wrong(impl.ErrRange, x <= -1001, x >= 1001, y <= -1001, y >= 1001)
	if code := codes.first(); code != impl.OK {
		return shiftsCode(code)
	}
	var r reckoning
	across, upward := r.shiftAt(m, x, y)
	if r.left {
		return shiftsCode(impl.ErrRange)
	}
	return shifts(answerOf(across).Frac, answerOf(upward).Frac)
}

// middleOf is the mean of places and of shifts, each as its part across and its part upward.
func middleOf(list []impl.Mark) [4]*big.Rat {
	var sums [4]int64
	for _, m := range list {
		for i, n := range [4]int64{m.X, m.Y, m.Dx, m.Dy} {
			sums[i] += n
		}
	}
	var out [4]*big.Rat
	for i, n := range sums {
		out[i] = big.NewRat(n, int64(len(list)))
	}
	return out
}

// exactFit goes by what marks are off their middle: there size and turn do not hang on the shifts.
func exactFit(list []impl.Mark) [4]*big.Rat {
	var r reckoning
	middle := middleOf(list)
	size, turn, far := new(big.Rat), new(big.Rat), new(big.Rat)
	for _, m := range list {
		x, y := r.less(number(m.X), middle[0]), r.less(number(m.Y), middle[1])
		dx, dy := r.less(number(m.Dx), middle[2]), r.less(number(m.Dy), middle[3])
		size = r.total(size, r.times(x, dx), r.times(y, dy))
		turn = r.total(turn, r.times(x, dy), minus(r.times(y, dx)))
		far = r.total(far, r.times(x, x), r.times(y, y))
	}
	size, turn = r.by(size, far), r.by(turn, far)
	sx := r.total(middle[2], minus(r.times(size, middle[0])), r.times(turn, middle[1]))
	sy := r.total(middle[3], minus(r.times(size, middle[1])), minus(r.times(turn, middle[0])))
	return [4]*big.Rat{sx, sy, size, turn}
}

func fitWant(list []impl.Mark) impl.ModelResult {
	if code := marksFaultWant(list); code != impl.OK {
		return fitCode(code)
	}
	var out [4]impl.Frac
	for i, n := range exactFit(list) {
		told := answerOf(n)
		if told.Code != impl.OK {
			return fitCode(told.Code)
		}
		out[i] = told.Frac
	}
	return fitted(model(out[0], out[1], out[2], out[3]))
}

// residuals wants marks and a model without faults.
func (r *reckoning) residuals(list []impl.Mark, m impl.Model) []*big.Rat {
	var out []*big.Rat
	for _, at := range list {
		across, upward := r.shiftAt(m, at.X, at.Y)
		out = append(out, r.less(number(at.Dx), across), r.less(number(at.Dy), upward))
	}
	return out
}

func residualsWant(list []impl.Mark, m impl.Model) impl.LinesFit {
	var codes faults
	codes.found(marksFaultWant(list))
	codes.found(modelFaultWant(m))
	if code := codes.first(); code != impl.OK {
		return solvedCode(code)
	}
	var r reckoning
	var out []impl.Frac
	for _, n := range r.residuals(list, m) {
		out = append(out, answerOf(n).Frac)
	}
	if r.left {
		return solvedCode(impl.ErrRange)
	}
	return solved(out...)
}

// proofSums are the four that are 0 where a fit is the best, each of its terms one after the other.
func (r *reckoning) proofSums(list []impl.Mark, m impl.Model) [4]*big.Rat {
	var terms [4][]*big.Rat
	left := r.residuals(list, m)
	for i, at := range list {
		x, y, across, upward := number(at.X), number(at.Y), left[2*i], left[2*i+1]
		terms[0] = append(terms[0], across)
		terms[1] = append(terms[1], upward)
		terms[2] = append(terms[2], r.times(x, across), r.times(y, upward))
		terms[3] = append(terms[3], r.times(x, upward), minus(r.times(y, across)))
	}
	var sums [4]*big.Rat
	for i, list := range terms {
		sums[i] = r.total(list...)
	}
	return sums
}

func checkFitWant(list []impl.Mark, m impl.Model) bool {
	if marksFaultWant(list) != impl.OK || modelFaultWant(m) != impl.OK {
		return false
	}
	var r reckoning
	for _, sum := range r.proofSums(list, m) {
		if sum.Sign() != 0 {
			return false
		}
	}
	return !r.left
}

func missWant(list []impl.Mark, m impl.Model) impl.FracResult {
	if code := residualsWant(list, m).Code; code != impl.OK {
		return fracCode(code)
	}
	var r reckoning
	sum := new(big.Rat)
	for _, n := range r.residuals(list, m) {
		sum = r.sum(sum, r.times(n, n))
	}
	if r.left {
		return fracCode(impl.ErrRange)
	}
	return answerOf(sum)
}

// exactRows are the rows, each with its number of right behind it.
func exactRows(rows [][]impl.Frac, right []impl.Frac) [][]*big.Rat {
	var out [][]*big.Rat
	for i, row := range rows {
		var line []*big.Rat
		for _, f := range append(slices.Clone(row), right[i]) {
			line = append(line, exactOf(f))
		}
		out = append(out, line)
	}
	return out
}

func rowsFaultWant(rows [][]impl.Frac, right []impl.Frac) int64 {
	var codes faults
	codes.wrong(impl.ErrForm, len(rows) == 0, len(rows) >= 5, len(right) != len(rows), !allRight(right...))
	for _, row := range rows {
		codes.wrong(impl.ErrForm, len(row) != len(rows), !allRight(row...))
	}
	return codes.first()
}

func solveWant(rows [][]impl.Frac, right []impl.Frac) impl.LinesFit {
	if code := rowsFaultWant(rows, right); code != impl.OK {
		return solvedCode(code)
	}
	var r reckoning
	work := exactRows(rows, right)
	for c := range work {
		p := c
		for p < len(work) && work[p][c].Sign() == 0 {
			p++
		}
		// What is not right ahead of a column without a number is told first.
		if r.left {
			return solvedCode(impl.ErrRange)
		}
		if p == len(work) {
			return solvedCode(impl.ErrNone)
		}
		work[c], work[p] = work[p], work[c]
		for i := range work {
			if i == c {
				continue
			}
			f := r.by(work[i][c], work[c][c])
			for j := c; j <= len(work); j++ {
				work[i][j] = r.less(work[i][j], r.times(f, work[c][j]))
			}
		}
	}
	var out []impl.Frac
	for c, row := range work {
		out = append(out, answerOf(r.by(row[len(work)], row[c])).Frac)
	}
	if r.left {
		return solvedCode(impl.ErrRange)
	}
	return solved(out...)
}

// shiftSum asks every pair of places.
func shiftSum(a []int64, b []int64, t int64) int64 {
	sum := int64(0)
	for i, n := range a {
		for j, m := range b {
			if int64(j) == int64(i)+t {
				sum += n * m
			}
		}
	}
	return sum
}

func shiftFaultWant(a []int64, b []int64, most int64) int64 {
	var codes faults
	codes.wrong(impl.ErrForm, len(a) == 0, len(b) == 0)
	codes.wrong(impl.ErrMany, len(a) >= 201, len(b) >= 201)
	for _, n := range slices.Concat(a, b) {
		codes.wrong(impl.ErrRange, n <= -1001, n >= 1001)
	}
	codes.wrong(impl.ErrRange, most <= -1, most >= 101)
	return codes.first()
}

func shiftWant(a []int64, b []int64, most int64) impl.ShapeInt {
	if code := shiftFaultWant(a, b, most); code != impl.OK {
		return valueCode(code)
	}
	sums := map[int64]int64{}
	var list []int64
	for t := -most; t <= most; t++ {
		list = append(list, t)
		sums[t] = shiftSum(a, b, t)
	}
	return value(slices.MinFunc(list, func(t int64, u int64) int {
		return cmp.Or(cmp.Compare(sums[u], sums[t]), cmp.Compare(max(t, -t), max(u, -u)), cmp.Compare(t, u))
	}))
}

func sameSolved(a impl.LinesFit, b impl.LinesFit) bool {
	return a.Code == b.Code && slices.Equal(a.List, b.List)
}

func checkSolved(t *testing.T, what string, got impl.LinesFit, want impl.LinesFit) {
	t.Helper()
	if !sameSolved(got, want) {
		t.Errorf("%s: %v, want %v", what, got, want)
	}
}

// someMarks have not all one place.
func someMarks(chance *rand.Rand, n int, place int64, shift int64) []impl.Mark {
	some := func(most int64) int64 { return chance.Int63n(2*most+1) - most }
	for {
		var list []impl.Mark
		for range n {
			list = append(list, mark(some(place), some(place), some(shift), some(shift)))
		}
		if marksFaultWant(list) == impl.OK {
			return list
		}
	}
}

// someFrac is right; its numbers go up to the bounds.
func someFrac(chance *rand.Rand, num int64, den int64) impl.Frac {
	n := chance.Int63n(num+1) >> chance.Intn(8)
	if chance.Intn(2) == 0 {
		n = -n
	}
	return answerOf(big.NewRat(n, 1+chance.Int63n(den)>>chance.Intn(8))).Frac
}

func someModel(chance *rand.Rand, num int64, den int64) impl.Model {
	return model(someFrac(chance, num, den), someFrac(chance, num, den), someFrac(chance, num, den), someFrac(chance, num, den))
}

func someRows(chance *rand.Rand, n int, num int64, den int64) ([][]impl.Frac, []impl.Frac) {
	var rows [][]impl.Frac
	var right []impl.Frac
	for range n {
		var row []impl.Frac
		for range n {
			row = append(row, someFrac(chance, num, den))
		}
		rows, right = append(rows, row), append(right, someFrac(chance, num, den))
	}
	return rows, right
}

func someSignal(chance *rand.Rand, n int, most int64) []int64 {
	list := make([]int64, n)
	for i := range list {
		list[i] = chance.Int63n(2*most+1) - most
	}
	return list
}

// overlayEnds stand at and beyond the bounds of chapter 11, and at the ends of int64.
func overlayEnds() []int64 {
	list := numbers(0, 1, 2, 19, 20, 21, 49, 50, 51, 99, 100, 101, 199, 200, 201, 999, 1000, 1001, impl.MaxNum-1, impl.MaxNum, impl.MaxNum+1, 1<<32, greatestInt-1, greatestInt)
	for _, n := range list {
		list = append(list, -n)
	}
	return append(list, leastInt)
}
