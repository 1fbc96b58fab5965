package tests

import (
	"math"
	"math/big"
	"slices"
	"testing"

	"loop.example/g00057/impl"
)

// coinsWant reckons with numbers that have no bounds.
func coinsWant(seed, n, most int64) impl.CoinResult {
	want := impl.CoinResult{Next: seed}
	for range n {
		step := new(big.Int).Mul(big.NewInt(48271), big.NewInt(want.Next))
		want.Next = step.Mod(step, big.NewInt(2147483647)).Int64()
		want.List = append(want.List, want.Next/64%most)
	}
	return want
}

func sameCoins(a, b impl.CoinResult) bool {
	return a.Code == b.Code && a.Next == b.Next && slices.Equal(a.List, b.List)
}

func TestCoins(t *testing.T) {
	const last = impl.CoinPrime - 1
	for _, seed := range []int64{1, 2, 64, 48271, 1291394886, last - 1, last} {
		for _, n := range []int64{0, 1, 2, 3, 100, impl.MaxCoins - 1, impl.MaxCoins} {
			for _, most := range []int64{1, 2, 3, 6, 64, 999999, 1000000} {
				if got, want := impl.Coins(seed, n, most), coinsWant(seed, n, most); !sameCoins(got, want) {
					t.Errorf("Coins(%d, %d, %d) = %v, want %v", seed, n, most, got, want)
				}
			}
		}
	}
}

func TestCoinsBeyondBounds(t *testing.T) {
	cases := []struct{ seed, n, most int64 }{
		{0, 1, 6}, {-1, 1, 6}, {impl.CoinPrime, 1, 6}, {impl.CoinPrime + 1, 1, 6}, {math.MinInt64, 1, 6}, {math.MaxInt64, 1, 6},
		{1, -1, 6}, {1, impl.MaxCoins + 1, 6}, {1, math.MinInt64, 6}, {1, math.MaxInt64, 6},
		{1, 1, 0}, {1, 1, -1}, {1, 1, 1000001}, {1, 1, math.MinInt64}, {1, 1, math.MaxInt64},
		{0, 0, 6}, {1, 0, 0}, {0, 0, 0}, {0, -1, 0}, {impl.CoinPrime, impl.MaxCoins + 1, 1000001},
	}
	for _, c := range cases {
		if got := impl.Coins(c.seed, c.n, c.most); !sameCoins(got, impl.CoinResult{Code: impl.ErrForm}) {
			t.Errorf("Coins(%d, %d, %d) = %v, want ErrForm alone", c.seed, c.n, c.most, got)
		}
	}
}

func TestCoinsInTwoGoes(t *testing.T) {
	for _, seed := range []int64{1, 57, 123456789, impl.CoinPrime - 1} {
		for _, n := range []int64{0, 1, 2, 7, 100, impl.MaxCoins} {
			whole := impl.Coins(seed, n, 1000)
			for _, cut := range []int64{0, n / 3, n / 2, n} {
				first := impl.Coins(seed, cut, 1000)
				second := impl.Coins(first.Next, n-cut, 1000)
				joined := impl.CoinResult{Next: second.Next, List: slices.Concat(first.List, second.List)}
				if !sameCoins(whole, joined) {
					t.Errorf("seed %d: %d coins differ from %d and the rest", seed, n, cut)
				}
			}
		}
	}
}

// Any answer's Next must be a seed that is right, or a second go would fail.
func TestCoinsGoOn(t *testing.T) {
	seed := int64(impl.CoinPrime - 1)
	for range 200 {
		r := impl.Coins(seed, 37, 1000000)
		if r.Code != impl.OK || r.Next < 1 || r.Next >= impl.CoinPrime {
			t.Fatalf("Coins(%d, 37, 1000000) ends in %d, %d", seed, r.Code, r.Next)
		}
		for _, coin := range r.List {
			if coin < 0 || coin >= 1000000 {
				t.Errorf("a coin of 1000000 is %d", coin)
			}
		}
		seed = r.Next
	}
}
