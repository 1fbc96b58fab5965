package tests

import (
	"math"
	"math/big"
	"math/rand"

	"loop.example/g00057/impl"
)

const wide = 1000000000000000000

// edgeNumbers stand at and just beyond every bound that chapter 1 names, and at the ends of int64.
func edgeNumbers() []int64 {
	list := []int64{0, 1, 2, 3, 4, 6, 7, 64, 720, 48271}
	for _, bound := range []int64{impl.MaxCoins, impl.MaxText, 1000000, impl.MaxNum, impl.CoinPrime, wide, 1 << 62} {
		list = append(list, bound-1, bound, bound+1)
	}
	list = append(list, math.MaxInt64-1, math.MaxInt64)
	for _, n := range list {
		list = append(list, -n)
	}
	return append(list, math.MinInt64)
}

// rightFracs are right: the greatest and least ones, near ones, and those whose sums and products reach the bounds.
func rightFracs() []impl.Frac {
	const m = impl.MaxNum
	list := []impl.Frac{
		{Num: 0, Den: 1}, {Num: 1, Den: 1}, {Num: 1, Den: 2}, {Num: 1, Den: 3}, {Num: 2, Den: 3}, {Num: 5, Den: 2},
		{Num: 7, Den: 6}, {Num: 1, Den: 6}, {Num: 6, Den: 1}, {Num: 22, Den: 7}, {Num: 355, Den: 113}, {Num: 1, Den: 65536},
		{Num: 31622, Den: 1}, {Num: 31623, Den: 1}, {Num: 1, Den: 31622}, {Num: 1, Den: 31623},
		{Num: m, Den: 1}, {Num: m - 1, Den: 1}, {Num: m / 2, Den: 1}, {Num: 1, Den: m}, {Num: 1, Den: m - 1}, {Num: 3, Den: m},
		{Num: m, Den: m - 1}, {Num: m - 1, Den: m}, {Num: m - 1, Den: m - 2}, {Num: m - 2, Den: m - 1},
		{Num: 999999937, Den: 2}, {Num: 2, Den: 999999937}, {Num: 999999937, Den: 536870912}, {Num: 1, Den: m / 2},
	}
	for _, f := range list[1:] {
		list = append(list, impl.Frac{Num: -f.Num, Den: f.Den})
	}
	return list
}

// wrongFracs are not right, each for one reason at least that the document names.
func wrongFracs() []impl.Frac {
	const m = impl.MaxNum
	return []impl.Frac{
		{}, {Num: 1, Den: 0}, {Num: 0, Den: 2}, {Num: 0, Den: -1}, {Num: 0, Den: m}, {Num: 1, Den: -1}, {Num: -1, Den: -2},
		{Num: 2, Den: 2}, {Num: -2, Den: 4}, {Num: 6, Den: 4}, {Num: m, Den: m}, {Num: m, Den: 2}, {Num: -m, Den: 2},
		{Num: m + 1, Den: 1}, {Num: -m - 1, Den: 1}, {Num: 1, Den: m + 1}, {Num: m + 1, Den: m},
		{Num: wide, Den: 1}, {Num: 1, Den: wide}, {Num: math.MaxInt64, Den: 1}, {Num: math.MinInt64, Den: 1},
		{Num: 1, Den: math.MaxInt64}, {Num: 1, Den: math.MinInt64}, {Num: math.MinInt64, Den: math.MinInt64},
		{Num: math.MinInt64, Den: -1}, {Num: math.MaxInt64, Den: math.MaxInt64}, {Num: math.MinInt64, Den: 0},
	}
}

// smallFracs are all the right fractions of small numbers: their sums and products are right, too.
func smallFracs() []impl.Frac {
	var list []impl.Frac
	for den := int64(1); den <= 6; den++ {
		for num := int64(-7); num <= 7; num++ {
			if f := (impl.Frac{Num: num, Den: den}); rightByTrial(f) {
				list = append(list, f)
			}
		}
	}
	return list
}

// rightByTrial asks every number that might divide both: slow, so for small numbers, and the document's very words.
func rightByTrial(f impl.Frac) bool {
	if f.Den < 1 || f.Den > impl.MaxNum || f.Num < -impl.MaxNum || f.Num > impl.MaxNum {
		return false
	}
	for d := int64(2); d <= f.Den; d++ {
		if f.Num%d == 0 && f.Den%d == 0 {
			return false
		}
	}
	return true
}

// answerOf is the answer that the document asks for where the exact number is known.
func answerOf(exact *big.Rat) impl.FracResult {
	most := big.NewInt(impl.MaxNum)
	if exact.Denom().Cmp(most) > 0 || exact.Num().CmpAbs(most) > 0 {
		return impl.FracResult{Code: impl.ErrRange}
	}
	return impl.FracResult{Frac: impl.Frac{Num: exact.Num().Int64(), Den: exact.Denom().Int64()}}
}

func exactOf(f impl.Frac) *big.Rat {
	return big.NewRat(f.Num, f.Den)
}

// someNumbers are the same at every run; their sizes are spread over all of int64.
func someNumbers(n int) []int64 {
	chance := rand.New(rand.NewSource(57))
	list := make([]int64, n)
	for i := range list {
		list[i] = int64(chance.Uint64()) >> chance.Intn(64)
	}
	return list
}

// someRightFracs are made without the program's own reckoning.
func someRightFracs(n int) []impl.Frac {
	chance := rand.New(rand.NewSource(1))
	var list []impl.Frac
	for len(list) < n {
		num := chance.Int63n(impl.MaxNum+1) >> chance.Intn(30)
		den := chance.Int63n(impl.MaxNum)>>chance.Intn(30) + 1
		if chance.Intn(2) == 0 {
			num = -num
		}
		list = append(list, answerOf(big.NewRat(num, den)).Frac)
	}
	return list
}
