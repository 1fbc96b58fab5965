package tests

import (
	"math"
	"math/rand"
	"slices"
	"testing"

	"loop.example/g00057/impl"
)

type bendCase struct {
	name   string
	target []impl.Line
	length int64
	k      impl.Kernel
	rounds int64
	want   impl.CorrectResult
}

func checkBends(t *testing.T, cases []bendCase) {
	t.Helper()
	for _, c := range cases {
		checkBent(t, c.name, impl.CorrectLines(c.target, c.length, c.k, c.rounds), c.want)
		checkBent(t, c.name+", plainly", bendWant(c.target, c.length, c.k, c.rounds), c.want)
	}
}

// Each lit cell prints those at a distance of two, so the lines must move two cells.
func TestCorrectLinesByHand(t *testing.T) {
	far := kernel(1, 0, 0, 1)
	checkBends(t, []bendCase{
		{"no lines", nil, 8, far, 30, bentTo(nil, 0)},
		{"no rounds", linesAt(0, 2), 4, far, 0, bentTo(linesAt(0, 2), 4)},
		{"one round", linesAt(0, 2), 4, far, 1, bentTo(linesAt(1, 3), 4, 3, 2)},
		{"two rounds", linesAt(0, 2), 4, far, 2, bentTo(linesAt(2, 4), 4, 3, 2, 1, 0)},
		{"three rounds", linesAt(0, 2), 4, far, 3, bentTo(linesAt(2, 4), 4, 3, 2, 1, 0)},
		{"all rounds", linesAt(0, 2), 4, far, 30, bentTo(linesAt(2, 4), 4, 3, 2, 1, 0)},
		{"the other way", linesAt(2, 4), 4, far, 30, bentTo(linesAt(0, 2), 4, 3, 2, 1, 0)},
		{"it fits already", linesAt(1, 4), 6, kernel(1, 1), 30, bentTo(linesAt(1, 4), 0)},
		{"too wide", linesAt(2, 5), 8, kernel(3, 4, 2, 1), 30, bentTo(linesAt(3, 5), 2, 1)},
		{"too narrow", linesAt(2, 5), 8, kernel(8, 4, 2, 1), 30, bentTo(linesAt(1, 6), 2, 1, 0)},
		{"too narrow, one round", linesAt(2, 5), 8, kernel(8, 4, 2, 1), 1, bentTo(linesAt(1, 6), 2, 1, 0)},
	})
}

// What has a fault is not taken, however good it would be, nor is what has the same error.
func TestEndsThatMayNotMove(t *testing.T) {
	side := kernel(1, 0, 1)
	checkBends(t, []bendCase{
		{"it would leave the cells on both sides", linesAt(0, 1), 1, kernel(2, 1, 1), 30, bentTo(linesAt(0, 1), 1)},
		{"it would begin below 0", linesAt(0, 2), 4, kernel(3, 1, 1), 30, bentTo(linesAt(0, 3), 2, 1)},
		{"it would end above length", linesAt(2, 4), 4, kernel(3, 1, 1), 30, bentTo(linesAt(1, 4), 2, 1)},
		{"it would be empty", linesAt(3, 4), 7, kernel(3, 0, 0, 5, 5), 30, bentTo(linesAt(3, 4), 5)},
		{"all cells", linesAt(0, 5), 5, kernel(8, 4, 2, 1), 30, bentTo(linesAt(0, 5), 2)},
		{"they would touch, one round", linesAt(0, 1, 2, 3), 4, side, 1, bentTo(linesAt(0, 1, 2, 4), 4, 3)},
		{"they would touch, two rounds", linesAt(0, 1, 2, 3), 4, side, 2, bentTo(linesAt(0, 1, 3, 4), 4, 3, 2)},
		{"they would touch, three rounds", linesAt(0, 1, 2, 3), 4, side, 3, bentTo(linesAt(0, 2, 3, 4), 4, 3, 2, 1)},
		{"they would touch, until they fit", linesAt(0, 1, 2, 3), 4, side, 30, bentTo(linesAt(1, 2, 3, 4), 4, 3, 2, 1, 0)},
		{"they would touch, and nothing else helps", linesAt(0, 1, 2, 3), 3, kernel(3, 1, 2), 30, bentTo(linesAt(0, 1, 2, 3), 3)},
		{"the same error", linesAt(1, 2), 3, kernel(2, 1, 1), 30, bentTo(linesAt(1, 2), 1)},
	})
}

// Where both 1 less and 1 more are better, 1 less is taken, even if 1 more is better still.
func TestAnEndIsMovedDownFirst(t *testing.T) {
	far := kernel(1, 0, 0, 1)
	from, to := linesAt(2, 4), linesAt(0, 2, 4, 5)
	for _, c := range []struct {
		target     []impl.Line
		length     int64
		end        int
		down, more int64
	}{
		{from, 4, 0, 3, 3}, {to, 6, 1, 4, 3},
	} {
		checkValue(t, "1 less", impl.PrintError(c.target, movedEnd(c.target, c.end, -1), c.length, far), value(c.down))
		checkValue(t, "1 more", impl.PrintError(c.target, movedEnd(c.target, c.end, 1), c.length, far), value(c.more))
	}
	checkBends(t, []bendCase{
		{"From", from, 4, far, 1, bentTo(linesAt(1, 3), 4, 3, 2)},
		{"To", to, 6, far, 1, bentTo(linesAt(0, 1, 4, 5), 5, 4)},
		{"To, all rounds", to, 6, far, 30, bentTo(linesAt(0, 1, 4, 5), 5, 4)},
	})
}

// Twelve lines side by side have to go one cell further, and each waits for the one behind it: one step a round.
func TestOneStepARound(t *testing.T) {
	for rounds := range int64(31) {
		want := bentTo(teeth(12, 0), 24)
		for step := range min(rounds, 24) {
			want.Lines = movedEnd(want.Lines, 23-int(step), 1)
			want.Errors = append(want.Errors, 23-step)
		}
		checkBent(t, "twelve lines", impl.CorrectLines(teeth(12, 0), 24, kernel(1, 0, 1), rounds), want)
	}
}

// From goes on, and so To, which by itself would go back, may not do so any more.
func TestARoundSeesWhatItTook(t *testing.T) {
	far := kernel(1, 0, 0, 1)
	target := linesAt(0, 2)
	checkValue(t, "To by itself, 1 less", impl.PrintError(target, movedEnd(target, 1, -1), 4, far), value(3))
	checkValue(t, "To by itself, 1 more", impl.PrintError(target, movedEnd(target, 1, 1), 4, far), value(3))
	checkBent(t, "To behind From", impl.CorrectLines(target, 4, far, 1), bentTo(linesAt(1, 3), 4, 3, 2))
}

func TestRoundsOfCorrections(t *testing.T) {
	far := kernel(1, 0, 0, 1)
	start := linesAt(0, 2)
	for _, c := range []struct {
		rounds int64
		want   impl.CorrectResult
	}{
		{math.MinInt64, bentCode(impl.ErrRange)}, {-1, bentCode(impl.ErrRange)}, {0, bentTo(start, 4)}, {1, bentTo(linesAt(1, 3), 4, 3, 2)},
		{29, bentTo(linesAt(2, 4), 4, 3, 2, 1, 0)}, {30, bentTo(linesAt(2, 4), 4, 3, 2, 1, 0)}, {31, bentCode(impl.ErrRange)}, {math.MaxInt64, bentCode(impl.ErrRange)},
	} {
		checkBent(t, "rounds", impl.CorrectLines(start, 4, far, c.rounds), c.want)
	}
	checkBent(t, "no lines, 31 rounds", impl.CorrectLines(nil, 4, far, 31), bentCode(impl.ErrRange))
	checkBent(t, "it fits, -1 rounds", impl.CorrectLines(linesAt(0, 1), 4, kernel(1, 1), -1), bentCode(impl.ErrRange))
}

func TestCorrectLinesFaults(t *testing.T) {
	fit := kernel(1, 1)
	none, nine, low := kernel(1), kernel(1, make([]int64, 9)...), kernel(0, 1)
	touching, beyond, many := linesAt(0, 3, 3, 4), linesAt(0, 9), teeth(13, 0)
	checkBends(t, []bendCase{
		{"length 0", nil, 0, fit, 1, bentCode(impl.ErrForm)},
		{"length 61", nil, 61, fit, 1, bentCode(impl.ErrForm)},
		{"lines that touch", touching, 8, fit, 1, bentCode(impl.ErrForm)},
		{"a line beyond", beyond, 8, fit, 1, bentCode(impl.ErrRange)},
		{"thirteen lines", many, 60, fit, 1, bentCode(impl.ErrMany)},
		{"no weights", linesAt(0, 1), 8, none, 1, bentCode(impl.ErrForm)},
		{"nine weights", linesAt(0, 1), 8, nine, 1, bentCode(impl.ErrMany)},
		{"the level 0", linesAt(0, 1), 8, low, 1, bentCode(impl.ErrRange)},
		{"lines that touch, rounds", touching, 8, fit, 31, bentCode(impl.ErrForm)},
		{"thirteen lines, rounds", many, 60, fit, -1, bentCode(impl.ErrMany)},
		{"no weights, rounds", linesAt(0, 1), 8, none, -1, bentCode(impl.ErrForm)},
		{"nine weights, rounds", linesAt(0, 1), 8, nine, 31, bentCode(impl.ErrMany)},
		{"lines that touch, nine weights", touching, 8, nine, 1, bentCode(impl.ErrForm)},
		{"a line beyond, no weights", beyond, 8, none, 1, bentCode(impl.ErrRange)},
		{"length, nine weights", nil, 61, nine, 1, bentCode(impl.ErrForm)},
		{"all", beyond, 8, nine, 31, bentCode(impl.ErrRange)},
	})
}

// checkBendProof asks for what holds of every correction: lines without a fault, a proof that holds, and ends that went
// no further than there were rounds and steps.
func checkBendProof(t *testing.T, target []impl.Line, length int64, k impl.Kernel, rounds int64, got impl.CorrectResult) {
	t.Helper()
	if got.Code != impl.OK || len(got.Lines) != len(target) || impl.LinesFault(got.Lines, length) != impl.OK {
		t.Fatalf("%s on %d cells with %v: %s", brief(target), length, k, brief(got))
	}
	if !impl.CheckCorrection(target, length, k, got) || !checkBendWant(target, length, k, got) {
		t.Fatalf("%s on %d cells with %v: %s proves nothing", brief(target), length, k, brief(got))
	}
	moved := int64(0)
	for i, l := range got.Lines {
		from, to := l.From-target[i].From, l.To-target[i].To
		moved += max(from, -from) + max(to, -to)
		if max(from, -from, to, -to) > rounds {
			t.Fatalf("%s on %d cells with %v: line %d is %v", brief(target), length, k, i, l)
		}
	}
	if steps := int64(len(got.Errors)) - 1; moved > steps || (steps-moved)%2 != 0 || steps > 2*rounds*int64(len(target)) {
		t.Fatalf("%s on %d cells with %v: %d steps, ends moved by %d", brief(target), length, k, steps, moved)
	}
}

// All sets of cells of a short length, with kernels of many kinds.
func TestCorrectionsOfAllShortLines(t *testing.T) {
	both := [2]int{}
	for length := int64(1); length <= 7; length++ {
		for bits := range 1 << length {
			target := bitLines(bits, length)
			for _, k := range smallKernels() {
				for _, rounds := range numbers(0, 1, 2, 30) {
					got := impl.CorrectLines(target, length, k, rounds)
					checkBent(t, brief(target), got, bendWant(target, length, k, rounds))
					checkBendProof(t, target, length, k, rounds, got)
				}
				for end := range 2 * len(target) {
					if betterEnd(target, target, length, k, end, -1) && betterEnd(target, target, length, k, end, 1) {
						both[end%2]++
					}
				}
			}
		}
	}
	if min(both[0], both[1]) < 10 {
		t.Errorf("both ways were better for %v ends", both)
	}
}

func TestCorrectionsOfLongLines(t *testing.T) {
	chance := rand.New(rand.NewSource(87))
	less, more := 0, 0
	for range 250 {
		length := 1 + chance.Int63n(60)
		target, k := someLines(chance, length, 12), someKernel(chance)
		rounds := chance.Int63n(31)
		got := impl.CorrectLines(target, length, k, rounds)
		checkBent(t, brief(target), got, bendWant(target, length, k, rounds))
		checkBendProof(t, target, length, k, rounds, got)
		for i, l := range got.Lines {
			if l.From < target[i].From || l.To < target[i].To {
				less++
			}
			if l.From > target[i].From || l.To > target[i].To {
				more++
			}
		}
	}
	if min(less, more) < 50 {
		t.Errorf("%d lines went back and %d on", less, more)
	}
}

// Behind a round in which none was taken no end can be moved any more.
func TestTheLastRound(t *testing.T) {
	chance := rand.New(rand.NewSource(88))
	ended := 0
	for range 400 {
		length := 1 + chance.Int63n(40)
		target, k := someLines(chance, length, 12), someKernel(chance)
		all := impl.CorrectLines(target, length, k, 30)
		if len(impl.CorrectLines(target, length, k, 29).Errors) < len(all.Errors) {
			continue
		}
		ended++
		for end := range 2 * len(all.Lines) {
			if betterEnd(target, all.Lines, length, k, end, -1) || betterEnd(target, all.Lines, length, k, end, 1) {
				t.Fatalf("%s on %d cells with %v: end %d of %s is not at its best", brief(target), length, k, end, brief(all.Lines))
			}
		}
		before := 1
		for rounds := range int64(31) {
			steps := len(impl.CorrectLines(target, length, k, rounds).Errors)
			if steps < before || steps == before && rounds > 0 && steps != len(all.Errors) {
				t.Fatalf("%s on %d cells with %v: %d steps behind %d, in round %d of %d", brief(target), length, k, steps, before, rounds, len(all.Errors))
			}
			before = steps
		}
	}
	if ended < 300 {
		t.Errorf("%d ended", ended)
	}
}

// What more rounds tell begins with what fewer tell.
func TestMoreRoundsGoOn(t *testing.T) {
	chance := rand.New(rand.NewSource(89))
	for range 200 {
		length := 1 + chance.Int63n(40)
		target, k := someLines(chance, length, 12), someKernel(chance)
		all := impl.CorrectLines(target, length, k, 30)
		for rounds := range int64(5) {
			some := impl.CorrectLines(target, length, k, rounds)
			if len(some.Errors) > len(all.Errors) || !slices.Equal(some.Errors, all.Errors[:len(some.Errors)]) {
				t.Fatalf("%s: in %d rounds %s, in all %s", brief(target), rounds, brief(some), brief(all))
			}
		}
	}
}
