package tests

import (
	"math"
	"math/rand"
	"slices"
	"testing"

	"loop.example/g00057/impl"
)

// evened is the answer with these shots and errors.
func evened(list []impl.Shot, errors ...int64) impl.DoseResult {
	return impl.DoseResult{Shots: list, Errors: errors}
}

// dosed are single cells side by side, from the left, with these doses.
func dosed(doses ...int64) []impl.Shot {
	var list []impl.Shot
	for i, dose := range doses {
		x := int64(i)
		list = append(list, shot(box(x, 0, x+1, 1), dose))
	}
	return list
}

func TestEvenDosesByHand(t *testing.T) {
	row := box(0, 0, 4, 1)
	plain := writer(row, 1, 0, 0)
	half := writer(row, 2, 0, 0)
	cases := []struct {
		name   string
		list   []impl.Shot
		w      impl.Writer
		want   int64
		rounds int64
		even   impl.DoseResult
	}{
		{"no shots", nil, plain, 10, 50, evened(nil, 0)},
		{"no rounds", dosed(3), plain, 10, 0, evened(dosed(3), 7)},
		{"one round, one more", dosed(3), plain, 10, 1, evened(dosed(4), 7, 6)},
		{"one round, one less", dosed(13), plain, 10, 1, evened(dosed(12), 3, 2)},
		{"until it fits", dosed(7), plain, 10, 50, evened(dosed(10), 3, 2, 1, 0)},
		{"just as many rounds as it needs", dosed(7), plain, 10, 3, evened(dosed(10), 3, 2, 1, 0)},
		{"one round too few", dosed(7), plain, 10, 2, evened(dosed(9), 3, 2, 1)},
		{"it fits already", dosed(10, 10), plain, 10, 50, evened(dosed(10, 10), 0)},
		{"shot by shot", dosed(9, 12, 10), plain, 10, 1, evened(dosed(10, 11, 10), 3, 2, 1)},
		{"round by round", dosed(8, 12, 10), plain, 10, 50, evened(dosed(10, 10, 10), 4, 3, 2, 1, 0)},
		{"the same error is not taken", dosed(4), half, 9, 50, evened(dosed(4), 1)},
		{"the same error is not taken, one less", dosed(5), half, 9, 50, evened(dosed(5), 1)},
		{"not above 1000", dosed(999, 1000), plain, 2000, 50, evened(dosed(1000, 1000), 2001, 2000)},
		{"not below 0", dosed(1, 0), writer(row, 1, 1, 0), 0, 50, evened(dosed(0, 0), 2, 0)},
		{"0, and too much is scattered", shots(shot(box(0, 0, 1, 1), 0), shot(box(1, 0, 2, 1), 2)), writer(row, 0, 1, 1), 0, 1, evened(dosed(0, 1), 4, 2)},
		{"from 0 upward", dosed(0), plain, 2, 50, evened(dosed(2), 2, 1, 0)},
		{"from 1000 downward", dosed(1000), plain, 998, 50, evened(dosed(998), 2, 1, 0)},
		{"1000, and more is wanted", dosed(1000), plain, 1000000000, 50, evened(dosed(1000), 999999000)},
		{"one lies outside", shots(shot(box(9, 9, 10, 10), 5), shot(box(0, 0, 1, 1), 5)), plain, 6, 50, evened(shots(shot(box(9, 9, 10, 10), 5), shot(box(0, 0, 1, 1), 6)), 1, 0)},
		{"two upon one another", shots(shot(box(0, 0, 1, 1), 5), shot(box(0, 0, 1, 1), 5)), plain, 13, 50, evened(shots(shot(box(0, 0, 1, 1), 7), shot(box(0, 0, 1, 1), 6)), 3, 2, 1, 0)},
		{"no own and no share", dosed(1, 2), writer(row, 0, 0, 4), 5, 50, evened(dosed(1, 2), 10)},
	}
	for _, c := range cases {
		checkEven(t, c.name, impl.EvenDoses(c.list, c.w, c.want, c.rounds), c.even)
		checkEven(t, c.name+", plainly", evenWant(c.list, c.w, c.want, c.rounds), c.even)
	}
}

// A shot that ends a round with nothing taken behind one that was: what is taken is asked of the whole round.
func TestARoundGoesOnWhereOneWasTaken(t *testing.T) {
	plain := writer(box(0, 0, 3, 1), 1, 0, 0)
	checkEven(t, "only the first moves", impl.EvenDoses(dosed(7, 10, 10), plain, 10, 50), evened(dosed(10, 10, 10), 3, 2, 1, 0))
	checkEven(t, "only the last moves", impl.EvenDoses(dosed(10, 10, 7), plain, 10, 50), evened(dosed(10, 10, 10), 3, 2, 1, 0))
	checkEven(t, "only the middle moves", impl.EvenDoses(dosed(10, 13, 10), plain, 10, 50), evened(dosed(10, 10, 10), 3, 2, 1, 0))
}

// A shot that is at its best may move again when others have moved.
func TestShotsMoveAgain(t *testing.T) {
	w := writer(box(0, 0, 6, 1), 2, 1, 1)
	again := 0
	for first := range int64(12) {
		for second := range int64(12) {
			for third := range int64(12) {
				list := dosed(first, second, third)
				got, want := impl.EvenDoses(list, w, 20, 50), evenWant(list, w, 20, 50)
				checkEven(t, brief(list), got, want)
				one := impl.EvenDoses(list, w, 20, 1)
				if one.Shots[0].Dose == first && got.Shots[0].Dose != first {
					again++
				}
			}
		}
	}
	if again == 0 {
		t.Error("no shot stood still and moved later")
	}
}

func TestRoundsAtTheEdges(t *testing.T) {
	plain := writer(box(0, 0, 1, 1), 1, 0, 0)
	for _, c := range []struct {
		rounds, code, dose int64
	}{
		{-1, impl.ErrRange, 0}, {0, impl.OK, 0}, {1, impl.OK, 1}, {49, impl.OK, 49}, {50, impl.OK, 50}, {51, impl.ErrRange, 0},
		{math.MinInt64, impl.ErrRange, 0}, {math.MaxInt64, impl.ErrRange, 0},
	} {
		got := impl.EvenDoses(dosed(0), plain, 1000, c.rounds)
		want := impl.DoseResult{Code: c.code}
		if c.code == impl.OK {
			want = evened(dosed(c.dose))
			for n := range c.dose + 1 {
				want.Errors = append(want.Errors, 1000-n)
			}
		}
		checkEven(t, "rounds", got, want)
	}
	checkEven(t, "no shots, 51 rounds", impl.EvenDoses(nil, plain, 1, 51), impl.DoseResult{Code: impl.ErrRange})
}

func TestEvenDosesWithTwoFaults(t *testing.T) {
	right, wrong := writer(box(0, 0, 1, 1), 1, 0, 0), writer(box(0, 0, 25, 1), 1, 0, 0)
	unformed := shots(shot(box(0, 0, 0, 1), 1))
	for _, c := range []struct {
		name         string
		list         []impl.Shot
		w            impl.Writer
		want, rounds int64
		code         int64
	}{
		{"want, rounds", dosed(1), right, -1, 51, impl.ErrRange},
		{"a shot, want", unformed, right, -1, 1, impl.ErrForm},
		{"a shot, rounds", unformed, right, 1, 51, impl.ErrForm},
		{"the writer, a shot", unformed, wrong, 1, 1, impl.ErrMany},
		{"the writer, rounds", dosed(1), wrong, 1, -1, impl.ErrMany},
		{"the writer, want", dosed(1), wrong, -1, 1, impl.ErrMany},
		{"too many shots, rounds", longer(dosed(1), 41), right, 1, -1, impl.ErrMany},
		{"all", unformed, wrong, -1, -1, impl.ErrMany},
	} {
		checkEven(t, c.name, impl.EvenDoses(c.list, c.w, c.want, c.rounds), impl.DoseResult{Code: c.code})
		checkEven(t, c.name+", plainly", evenWant(c.list, c.w, c.want, c.rounds), impl.DoseResult{Code: c.code})
	}
}

// checkProof asks for what holds of every evening: errors that fall to that of the shots that are answered, each step
// from one to the next by one dose.
func checkProof(t *testing.T, list []impl.Shot, w impl.Writer, want int64, rounds int64, got impl.DoseResult) {
	t.Helper()
	if got.Code != impl.OK || len(got.Shots) != len(list) || len(got.Errors) == 0 {
		t.Fatalf("%s evened: %s", brief(list), brief(got))
	}
	if first, last := impl.DoseError(list, w, want), impl.DoseError(got.Shots, w, want); first.Value != got.Errors[0] || last.Value != got.Errors[len(got.Errors)-1] {
		t.Fatalf("%s evened: the errors are %s, want %d to %d", brief(list), brief(got.Errors), first.Value, last.Value)
	}
	for i := 1; i < len(got.Errors); i++ {
		if got.Errors[i] >= got.Errors[i-1] {
			t.Fatalf("%s evened: the errors do not fall, %s", brief(list), brief(got.Errors))
		}
	}
	moved := int64(0)
	for i, s := range got.Shots {
		off := s.Dose - list[i].Dose
		moved += max(off, -off)
		if s.Box != list[i].Box || s.Dose < 0 || s.Dose > 1000 || max(off, -off) > rounds {
			t.Fatalf("%s evened: shot %d is %v", brief(list), i, s)
		}
	}
	if steps := int64(len(got.Errors)) - 1; moved > steps || (steps-moved)%2 != 0 || steps > rounds*int64(len(list)) {
		t.Fatalf("%s evened: %d steps, doses moved by %d", brief(list), steps, moved)
	}
}

func TestEvenDosesAgainstThePlainReckoning(t *testing.T) {
	chance := rand.New(rand.NewSource(9))
	more, less := 0, 0
	for i := range 400 {
		list := someMaskShots(chance, i%7, 20)
		if i%5 == 0 {
			for j := range list {
				list[j].Dose = 1000 * chance.Int63n(2)
			}
		}
		w := someWriter(chance)
		want, rounds := chance.Int63n(400), chance.Int63n(6)
		got := impl.EvenDoses(list, w, want, rounds)
		checkEven(t, "some, "+brief(list), got, evenWant(list, w, want, rounds))
		checkProof(t, list, w, want, rounds, got)
		for j, s := range got.Shots {
			if s.Dose > list[j].Dose {
				more++
			}
			if s.Dose < list[j].Dose {
				less++
			}
		}
	}
	if min(more, less) < 50 {
		t.Errorf("%d doses rose and %d fell", more, less)
	}
}

// What is evened to its end is not evened further; what is evened in two goes is evened as in one.
func TestEveningGoesOn(t *testing.T) {
	chance := rand.New(rand.NewSource(10))
	ended := 0
	for i := range 200 {
		list := someMaskShots(chance, 1+i%6, 30)
		w := someWriter(chance)
		want := chance.Int63n(300)
		one := impl.EvenDoses(list, w, want, 20)
		first := impl.EvenDoses(list, w, want, 8)
		second := impl.EvenDoses(first.Shots, w, want, 12)
		both := evened(second.Shots, append(slices.Clone(first.Errors), second.Errors[1:]...)...)
		checkEven(t, "in two goes", both, one)
		rest := impl.EvenDoses(one.Shots, w, want, 50)
		if again := impl.EvenDoses(rest.Shots, w, want, 50); len(again.Errors) == 1 {
			ended++
			checkEven(t, "at its end", again, evened(rest.Shots, rest.Errors[len(rest.Errors)-1]))
		}
	}
	if ended < 100 {
		t.Errorf("%d ended", ended)
	}
}

// As much as there may be: forty shots over a whole frame, and fifty rounds in which doses are taken.
func TestTheGreatestEvening(t *testing.T) {
	frame := box(0, 0, 24, 24)
	var tiles []impl.Shot
	for i := range int64(40) {
		x, y := i%8*3, i/8*5
		tiles = append(tiles, shot(box(x, y, x+3, min(24, y+5)), 500+i*7%13))
	}
	for _, list := range [][]impl.Shot{longer(shots(shot(frame, 500)), 40), tiles, longer(shots(shot(frame, 0)), 40), longer(shots(shot(frame, 1000)), 40)} {
		for _, want := range numbers(0, 200000, 1000000, 1000000000) {
			w := writer(frame, 1000, 30, 4)
			checkProof(t, list, w, want, 50, impl.EvenDoses(list, w, want, 50))
		}
	}
	w := writer(frame, 3, 1, 4)
	checkEven(t, "three rounds of tiles", impl.EvenDoses(tiles, w, 30000, 3), evenWant(tiles, w, 30000, 3))
}
