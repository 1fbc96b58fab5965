package tests

import (
	"math/rand"
	"testing"

	"loop.example/g00057/impl"
)

// ewmaCase is what a list comes to, smoothed.
type ewmaCase struct {
	name     string
	list     []int64
	num, den int64
	want     impl.IntsResult
}

func TestEwmaOfByHand(t *testing.T) {
	for _, c := range []ewmaCase{
		{"no list", nil, 1, 2, ints()},
		{"no number", numbers(), 0, 1, ints()},
		{"one", numbers(3), 1, 2, ints(192)},
		{"one below 0", numbers(-3), 1, 2, ints(-192)},
		{"one, none of it", numbers(3), 0, 5, ints(192)},
		{"one, all of it", numbers(3), 5, 5, ints(192)},
		{"half", numbers(0, 1, 1), 1, 2, ints(0, 32, 48)},
		{"half, to the end", numbers(0, 1, 1, 1, 1, 1, 1, 1, 1), 1, 2, ints(0, 32, 48, 56, 60, 62, 63, 63, 63)},
		{"half, downward", numbers(0, -1, -1, -1, -1, -1, -1, -1, -1), 1, 2, ints(0, -32, -48, -56, -60, -62, -63, -64, -64)},
		{"half, back down", numbers(1, 0, 0, 0, 0, 0, 0, 0, 0), 1, 2, ints(64, 32, 16, 8, 4, 2, 1, 0, 0)},
		{"a third, upward", numbers(0, 1), 1, 3, ints(0, 21)},
		{"a third, downward", numbers(0, -1), 1, 3, ints(0, -22)},
		{"two thirds, upward", numbers(0, 1), 2, 3, ints(0, 42)},
		{"two thirds, downward", numbers(0, -1), 2, 3, ints(0, -43)},
		{"down by less than 1", numbers(0, -1), 1, 1000, ints(0, -1)},
		{"up by less than 1", numbers(0, 1), 1, 1000, ints(0, 0)},
		{"up by just 1", numbers(0, 1), 1, 64, ints(0, 1)},
		{"down by just 1", numbers(0, -1), 1, 64, ints(0, -1)},
		{"down by one more part", numbers(0, -1), 1, 63, ints(0, -2)},
		{"up by one more part", numbers(0, 1), 1, 63, ints(0, 1)},
		{"none", numbers(3, 9, -9), 0, 1000, ints(192, 192, 192)},
		{"all", numbers(3, 9, -9), 1000, 1000, ints(192, 576, -576)},
		{"all, of one part", numbers(3, 9, -9), 1, 1, ints(192, 576, -576)},
		{"none, of one part", numbers(3, 9, -9), 0, 1, ints(192, 192, 192)},
		{"all the same", numbers(5, 5, 5), 7, 9, ints(320, 320, 320)},
		{"as far as there may be", numbers(-mostCharted, mostCharted, -mostCharted), 999, 1000, ints(-64000000, 63872000, -63872128)},
	} {
		checkInts(t, c.name, impl.EwmaOf(c.list, c.num, c.den), c.want)
		checkInts(t, c.name+", plainly", ewmaWant(c.list, c.num, c.den), c.want)
	}
}

func TestEwmaOfFaults(t *testing.T) {
	for _, c := range []struct {
		name     string
		num, den int64
		code     int64
	}{
		{"num -1", -1, 10, impl.ErrForm},
		{"num 0", 0, 10, impl.OK},
		{"num at den", 10, 10, impl.OK},
		{"num one more", 11, 10, impl.ErrForm},
		{"den -1", 0, -1, impl.ErrForm},
		{"both -1", -1, -1, impl.ErrForm},
		{"den 0", 0, 0, impl.ErrForm},
		{"den 0, num 1", 1, 0, impl.ErrForm},
		{"den 1", 0, 1, impl.OK},
		{"den and num 1", 1, 1, impl.OK},
		{"the greatest den", 0, 1000, impl.OK},
		{"both the greatest", 1000, 1000, impl.OK},
		{"den one more", 0, 1001, impl.ErrForm},
		{"both one more", 1001, 1001, impl.ErrForm},
		{"num above the greatest den", 1001, 1000, impl.ErrForm},
		{"all the least", leastInt, leastInt, impl.ErrForm},
		{"all the greatest", greatestInt, greatestInt, impl.ErrForm},
		{"the least and the greatest", leastInt, greatestInt, impl.ErrForm},
	} {
		for _, list := range [][]int64{nil, numbers(1), numbers(5, -7, 8)} {
			if got := impl.EwmaOf(list, c.num, c.den); got.Code != c.code || c.code != impl.OK && len(got.List) > 0 {
				t.Errorf("%s: %v, want %d", c.name, got, c.code)
			}
			checkInts(t, c.name, impl.EwmaOf(list, c.num, c.den), ewmaWant(list, c.num, c.den))
		}
	}
	for _, c := range chartCases() {
		for _, num := range chartEnds() {
			for _, den := range numbers(0, 1, 1000, 1001, num) {
				got := impl.EwmaOf(c.list, num, den)
				if c.code != impl.OK && !sameInts(got, intsCode(c.code)) {
					t.Errorf("%s, %d, %d: %s, want %d", c.name, num, den, brief(got), c.code)
				}
				if len(c.list) < 5 {
					checkInts(t, c.name, got, ewmaWant(c.list, num, den))
				}
			}
		}
	}
}

func TestEwmaOfAllSmall(t *testing.T) {
	for _, list := range allCharts(3, -2, -1, 0, 1, 3) {
		for den := int64(1); den <= 7; den++ {
			for num := range den + 1 {
				checkInts(t, "a small list", impl.EwmaOf(list, num, den), ewmaWant(list, num, den))
			}
		}
	}
}

func TestEwmaOfEveryShare(t *testing.T) {
	for den := int64(1); den <= 1000; den++ {
		for _, num := range numbers(0, 1, den/2, den-1, den) {
			list := numbers(17, -3, mostCharted, -mostCharted, 0)
			checkInts(t, "every share", impl.EwmaOf(list, num, den), ewmaWant(list, num, den))
		}
	}
}

// Some lists, and their beginnings; what is smoothed never leaves the numbers themselves.
func TestEwmaOfSomeLists(t *testing.T) {
	chance, below := rand.New(rand.NewSource(176)), 0
	for i := range 400 {
		most, den := numbers(3, 500, mostCharted)[i%3], 1+chance.Int63n(1000)
		list, num := someRuns(chance, chance.Intn(201), most), chance.Int63n(den+1)
		whole := impl.EwmaOf(list, num, den)
		checkInts(t, "some", whole, ewmaWant(list, num, den))
		for places := 0; places <= len(list); places += 1 + i%7 {
			checkInts(t, "a beginning", impl.EwmaOf(list[:places], num, den), ints(whole.List[:places]...))
		}
		for _, n := range whole.List {
			below += int(bit(n < 0))
			if n < -64*most || n > 64*most {
				t.Errorf("%s: %d", brief(list), n)
			}
		}
	}
	if below < 1000 {
		t.Errorf("%d are below 0", below)
	}
}
