package tests

import (
	"math/big"
	"math/rand"
	"slices"
	"testing"

	"loop.example/g00057/impl"
)

func defect(x int64, y int64, size int64, kind int64) impl.Defect {
	return impl.Defect{X: x, Y: y, Size: size, Kind: kind}
}

func defects(list ...impl.Defect) []impl.Defect {
	return list
}

// defectsAt are of size 1 and kind 0, told by X and Y in turn.
func defectsAt(pairs ...int64) []impl.Defect {
	var list []impl.Defect
	for i := 0; i < len(pairs); i += 2 {
		list = append(list, defect(pairs[i], pairs[i+1], 1, 0))
	}
	return list
}

// defectsOf are of these sizes, one behind the other in one row.
func defectsOf(sizes ...int64) []impl.Defect {
	var list []impl.Defect
	for i, size := range sizes {
		list = append(list, defect(int64(i), 0, size, 0))
	}
	return list
}

func class(kind int64, low int64, high int64, name int64, kill impl.Frac) impl.Class {
	return impl.Class{Kind: kind, Low: low, High: high, Name: name, Kill: kill}
}

func classes(list ...impl.Class) []impl.Class {
	return list
}

// killsBySize has a class for each of these, which takes the defects of just one size, from 1 on.
func killsBySize(kills ...impl.Frac) []impl.Class {
	var list []impl.Class
	for i, kill := range kills {
		list = append(list, class(-1, int64(i+1), int64(i+1), int64(i+1), kill))
	}
	return list
}

// killsAll has one class, which takes every defect.
func killsAll(kill impl.Frac) []impl.Class {
	return classes(class(-1, leastInt, greatestInt, 1, kill))
}

func hits(off int64, rows ...[]int64) impl.HitResult {
	return impl.HitResult{Rows: rows, Off: off}
}

func hitsCode(code int64) impl.HitResult {
	return impl.HitResult{Code: code}
}

func sameHits(a impl.HitResult, b impl.HitResult) bool {
	return a.Code == b.Code && a.Off == b.Off && slices.EqualFunc(a.Rows, b.Rows, slices.Equal[[]int64])
}

func checkHits(t *testing.T, what string, got impl.HitResult, want impl.HitResult) {
	t.Helper()
	if !sameHits(got, want) {
		t.Errorf("%s: %s, want %s", what, brief(got), brief(want))
	}
}

func defectsFaultWant(list []impl.Defect) int64 {
	var codes faults
	codes.wrong(impl.ErrMany, len(list) >= 61)
	for _, d := range list {
		codes.wrong(impl.ErrRange, d.X <= -1, d.X >= 10001, d.Y <= -1, d.Y >= 10001, d.Size <= 0, d.Size >= 1001)
		codes.wrong(impl.ErrForm, d.Kind <= -1, d.Kind >= 10)
	}
	return codes.first()
}

func classesFaultWant(list []impl.Class) int64 {
	var codes faults
	codes.wrong(impl.ErrMany, len(list) >= 21)
	for _, c := range list {
		codes.wrong(impl.ErrForm, c.Kind <= -2, c.Kind >= 10, c.Low > c.High, c.Name <= 0, c.Name >= 100, !isRight(c.Kill), c.Kill.Num <= -1, c.Kill.Num > c.Kill.Den)
	}
	return codes.first()
}

func areNear(a impl.Defect, b impl.Defect, near int64) bool {
	return a.X <= b.X+near && b.X <= a.X+near && a.Y <= b.Y+near && b.Y <= a.Y+near
}

// clustersWant gives each defect the place of the first one that it is joined with: two that are near take the lesser
// of theirs, until none changes.
func clustersWant(list []impl.Defect, near int64) impl.IntsResult {
	var codes faults
	codes.found(defectsFaultWant(list))
	codes.wrong(impl.ErrRange, near <= -1, near >= 1001)
	if code := codes.first(); code != impl.OK {
		return intsCode(code)
	}
	var first []int
	for i := range list {
		first = append(first, i)
	}
	for changes := true; changes; {
		changes = false
		for i, a := range list {
			for j, b := range list {
				if areNear(a, b, near) && first[i] > first[j] {
					first[i], changes = first[j], true
				}
			}
		}
	}
	return ints(rankWant(first)...)
}

// rankWant numbers clusters by how many first defects stand ahead of theirs.
func rankWant(first []int) []int64 {
	var list []int64
	for _, mine := range first {
		rank := int64(0)
		for i := range mine {
			if first[i] == i {
				rank++
			}
		}
		list = append(list, rank)
	}
	return list
}

// fitWantAt is the place of the first class that fits, or -1.
func fitWantAt(d impl.Defect, list []impl.Class) int {
	for i, c := range list {
		if (c.Kind == d.Kind || c.Kind == -1) && c.Low <= d.Size && d.Size <= c.High {
			return i
		}
	}
	return -1
}

func classWant(d impl.Defect, list []impl.Class) impl.ShapeInt {
	if code := classesFaultWant(list); code != impl.OK {
		return valueCode(code)
	}
	if at := fitWantAt(d, list); at >= 0 {
		return value(list[at].Name)
	}
	return value(0)
}

// bookWant asks for each place of the book how many defects belong there.
func bookWant(list []impl.Defect, sorts []impl.Class) impl.IntsResult {
	var codes faults
	codes.found(defectsFaultWant(list))
	codes.found(classesFaultWant(sorts))
	if code := codes.first(); code != impl.OK {
		return intsCode(code)
	}
	count := func(at int) int64 {
		n := int64(0)
		for _, d := range list {
			n += bit(fitWantAt(d, sorts) == at)
		}
		return n
	}
	var book []int64
	for at := range sorts {
		book = append(book, count(at))
	}
	return ints(append(book, count(-1))...)
}

func liesOn(d impl.Defect, i int64, j int64, pitch int64) bool {
	return i*pitch <= d.X && d.X <= (i+1)*pitch-1 && j*pitch <= d.Y && d.Y <= (j+1)*pitch-1
}

func hitFaultWant(list []impl.Defect, wide int64, high int64, pitch int64) int64 {
	var codes faults
	codes.found(defectsFaultWant(list))
	codes.wrong(impl.ErrRange, wide <= 0, wide >= 21, high <= 0, high >= 21, pitch <= 0, pitch >= 1001)
	return codes.first()
}

// hitWant asks every die for every defect.
func hitWant(list []impl.Defect, wide int64, high int64, pitch int64) impl.HitResult {
	if code := hitFaultWant(list, wide, high, pitch); code != impl.OK {
		return hitsCode(code)
	}
	out := hits(int64(len(list)))
	for j := range high {
		var row []int64
		for i := range wide {
			n := int64(0)
			for _, d := range list {
				n += bit(liesOn(d, i, j, pitch))
			}
			row = append(row, n)
			out.Off -= n
		}
		out.Rows = append(out.Rows, row)
	}
	return out
}

// survival wants defects and classes without faults.
func (r *reckoning) survival(list []impl.Defect, sorts []impl.Class) *big.Rat {
	left := number(1)
	for _, d := range list {
		lives := number(1)
		if at := fitWantAt(d, sorts); at >= 0 {
			lives = r.less(number(1), exactOf(sorts[at].Kill))
		}
		left = r.times(left, lives)
	}
	return left
}

func (r *reckoning) answer(n *big.Rat) impl.FracResult {
	if r.left {
		return fracCode(impl.ErrRange)
	}
	return answerOf(n)
}

func surviveWant(list []impl.Defect, sorts []impl.Class) impl.FracResult {
	var codes faults
	codes.found(defectsFaultWant(list))
	codes.found(classesFaultWant(sorts))
	if code := codes.first(); code != impl.OK {
		return fracCode(code)
	}
	var r reckoning
	return r.answer(r.survival(list, sorts))
}

func yieldWant(list []impl.Defect, sorts []impl.Class, wide int64, high int64, pitch int64) impl.FracResult {
	var codes faults
	codes.found(hitFaultWant(list, wide, high, pitch))
	codes.found(classesFaultWant(sorts))
	if code := codes.first(); code != impl.OK {
		return fracCode(code)
	}
	var r reckoning
	sum := number(0)
	for j := range high {
		for i := range wide {
			on := slices.DeleteFunc(slices.Clone(list), func(d impl.Defect) bool { return !liesOn(d, i, j, pitch) })
			sum = r.sum(sum, r.survival(on, sorts))
		}
	}
	return r.answer(r.by(sum, number(wide*high)))
}

// someDefects have no fault; they lie at places below place, and are of few kinds.
func someDefects(chance *rand.Rand, n int, place int64, size int64) []impl.Defect {
	var list []impl.Defect
	for range n {
		list = append(list, defect(chance.Int63n(place), chance.Int63n(place), 1+chance.Int63n(size), chance.Int63n(numbers(2, 10)[chance.Intn(2)])))
	}
	return list
}

// someClasses have no fault; the denominators of their kills are at most den.
func someClasses(chance *rand.Rand, n int, size int64, den int64) []impl.Class {
	var list []impl.Class
	for range n {
		low := chance.Int63n(size + 1)
		bottom := 1 + chance.Int63n(den)
		kill := answerOf(big.NewRat(chance.Int63n(bottom+1), bottom)).Frac
		kind := chance.Int63n(numbers(3, 11)[chance.Intn(2)]) - 1
		list = append(list, class(kind, low, low+chance.Int63n(size), 1+chance.Int63n(99), kill))
	}
	return list
}

// defectEnds are the bounds of chapter 15 and what lies beside them.
func defectEnds() []int64 {
	list := numbers(0, 1, 2, 8, 9, 10, 19, 20, 21, 59, 60, 61, 98, 99, 100, 999, 1000, 1001, 9999, 10000, 10001, impl.MaxNum-1, impl.MaxNum, impl.MaxNum+1, 1<<32, greatestInt-1, greatestInt)
	for _, n := range list {
		list = append(list, -n)
	}
	return append(list, leastInt)
}

// yieldKills are right, from 0 to 1, at the bounds and near to them.
func yieldKills() []impl.Frac {
	const most = impl.MaxNum
	return fracs(asFrac(0), asFrac(1), ratio(1, 2), ratio(1, 3), ratio(2, 3), ratio(1, 10), ratio(9, 10), ratio(1, 31622), ratio(1, 31623), ratio(31621, 31622),
		ratio(1, most), ratio(most-1, most), ratio(1, most-1), ratio(most-2, most-1), ratio(1, most/2), ratio(most/2-1, most/2))
}
