package tests

import (
	"math/rand"
	"testing"

	"loop.example/g00057/impl"
)

// diceCase has how many dice there are across and upward, and how far one is from the next.
type diceCase struct {
	wide, high, pitch int64
}

func (c diceCase) right() bool {
	return c.wide >= 1 && c.wide <= 20 && c.high >= 1 && c.high <= 20 && c.pitch >= 1 && c.pitch <= 1000
}

// diceCases have each number at each end, beside others that are right and wrong.
func diceCases() []diceCase {
	list := []diceCase{{1, 1, 1}, {20, 20, 1000}, {0, 0, 0}, {21, 21, 1001}, {-1, -1, -1}, {greatestInt, greatestInt, greatestInt}, {leastInt, leastInt, leastInt}}
	for _, n := range defectEnds() {
		list = append(list, diceCase{n, 2, 10}, diceCase{2, n, 10}, diceCase{2, 2, n}, diceCase{n, n, 10}, diceCase{n, 2, n}, diceCase{n, n, n})
	}
	return list
}

func checkDice(t *testing.T, what string, list []impl.Defect, c diceCase, want impl.HitResult) {
	t.Helper()
	checkHits(t, what, impl.HitDice(list, c.wide, c.high, c.pitch), want)
	checkHits(t, what+", plainly", hitWant(list, c.wide, c.high, c.pitch), want)
}

func TestHitDiceByHand(t *testing.T) {
	six := diceCase{3, 2, 10}
	for _, c := range []struct {
		name string
		list []impl.Defect
		dice diceCase
		want impl.HitResult
	}{
		{"no list", nil, six, hits(0, numbers(0, 0, 0), numbers(0, 0, 0))},
		{"no defect", defects(), diceCase{1, 1, 1}, hits(0, numbers(0))},
		{"the first place", defectsAt(0, 0), six, hits(0, numbers(1, 0, 0), numbers(0, 0, 0))},
		{"the last place of the first die", defectsAt(9, 9), six, hits(0, numbers(1, 0, 0), numbers(0, 0, 0))},
		{"one beyond across", defectsAt(10, 9), six, hits(0, numbers(0, 1, 0), numbers(0, 0, 0))},
		{"one beyond upward", defectsAt(9, 10), six, hits(0, numbers(0, 0, 0), numbers(1, 0, 0))},
		{"one beyond both", defectsAt(10, 10), six, hits(0, numbers(0, 0, 0), numbers(0, 1, 0))},
		{"the last place of all", defectsAt(29, 19), six, hits(0, numbers(0, 0, 0), numbers(0, 0, 1))},
		{"beyond all across", defectsAt(30, 19), six, hits(1, numbers(0, 0, 0), numbers(0, 0, 0))},
		{"beyond all upward", defectsAt(29, 20), six, hits(1, numbers(0, 0, 0), numbers(0, 0, 0))},
		{"beyond all both", defectsAt(30, 20), six, hits(1, numbers(0, 0, 0), numbers(0, 0, 0))},
		{"as far as may be", defectsAt(10000, 10000, 0, 10000, 10000, 0), six, hits(3, numbers(0, 0, 0), numbers(0, 0, 0))},
		{"two in one die", defectsAt(10, 0, 19, 9), six, hits(0, numbers(0, 2, 0), numbers(0, 0, 0))},
		{"two at one place", defectsAt(25, 15, 25, 15), six, hits(0, numbers(0, 0, 0), numbers(0, 0, 2))},
		{"two beyond, of one die that is not there", defectsAt(30, 0, 31, 1), six, hits(2, numbers(0, 0, 0), numbers(0, 0, 0))},
		{"two beyond, of two", defectsAt(30, 0, 0, 20), six, hits(2, numbers(0, 0, 0), numbers(0, 0, 0))},
		{"all of these", defectsAt(0, 0, 10, 0, 11, 1, 20, 10, 30, 10, 25, 25, 5, 15), six, hits(2, numbers(1, 2, 0), numbers(1, 0, 1))},
		{"columns are across", defectsAt(2, 0, 2, 1), diceCase{3, 2, 1}, hits(0, numbers(0, 0, 1), numbers(0, 0, 1))},
		{"dice of one place", defectsAt(0, 0, 0, 1, 1, 0, 1, 1, 2, 0, 0, 2), diceCase{2, 2, 1}, hits(2, numbers(1, 1), numbers(1, 1))},
		{"the greatest pitch", defectsAt(999, 999, 1000, 999, 999, 1000, 2000, 0), diceCase{2, 2, 1000}, hits(1, numbers(1, 1), numbers(1, 0))},
		{"a size that reaches over the next die", defects(defect(9, 9, 1000, 9)), six, hits(0, numbers(1, 0, 0), numbers(0, 0, 0))},
		{"MaxDefects in one die", longer(defectsAt(5, 5), 60), diceCase{1, 1, 10}, hits(0, numbers(60))},
		{"MaxDefects in none", longer(defectsAt(10, 5), 60), diceCase{1, 1, 10}, hits(60, numbers(0))},
	} {
		checkDice(t, c.name, c.list, c.dice, c.want)
	}
}

// A fault of the defects is told ahead of one of the dice.
func TestHitDiceFaults(t *testing.T) {
	for _, d := range defectCases() {
		for _, c := range diceCases() {
			want := hitsCode(d.code)
			switch {
			case d.code != impl.OK:
			case !c.right():
				want = hitsCode(impl.ErrRange)
			default:
				want = hitWant(d.list, c.wide, c.high, c.pitch)
			}
			checkDice(t, d.name, d.list, c, want)
		}
	}
}

// Every place of a small wafer, and the places around it.
func TestHitDiceAtEachPlace(t *testing.T) {
	for _, c := range []diceCase{{1, 1, 1}, {2, 1, 3}, {1, 2, 3}, {3, 4, 2}, {20, 20, 1}, {4, 3, 7}} {
		for x := range int64(30) {
			for y := range int64(30) {
				list := defectsAt(x, y)
				checkDice(t, "one place", list, c, hitWant(list, c.wide, c.high, c.pitch))
			}
		}
	}
	full := diceCase{20, 20, 500}
	for _, n := range numbers(0, 499, 500, 501, 9499, 9500, 9999, 10000) {
		for _, m := range numbers(0, 499, 500, 501, 9499, 9500, 9999, 10000) {
			list := defectsAt(n, m)
			checkDice(t, "an end", list, full, hitWant(list, full.wide, full.high, full.pitch))
		}
	}
}

// Every defect is in a die or off, just once, and all have rows and columns as told.
func TestEveryDefectIsHitOnce(t *testing.T) {
	chance, off, on := rand.New(rand.NewSource(165)), int64(0), int64(0)
	for i := range 3000 {
		list := someDefects(chance, chance.Intn(61), numbers(20, 200, 10001)[i%3], 9)
		c := diceCase{1 + chance.Int63n(20), 1 + chance.Int63n(20), 1 + chance.Int63n(numbers(4, 30, 1000)[i%3])}
		checkDice(t, "some", list, c, hitWant(list, c.wide, c.high, c.pitch))
		got := impl.HitDice(list, c.wide, c.high, c.pitch)
		sum := got.Off
		for _, row := range got.Rows {
			for _, n := range row {
				sum += n
			}
			if int64(len(row)) != c.wide {
				t.Errorf("a row of %d dice, want %d", len(row), c.wide)
			}
		}
		if sum != int64(len(list)) || int64(len(got.Rows)) != c.high {
			t.Errorf("%d defects in %d rows, want %d in %d", sum, len(got.Rows), len(list), c.high)
		}
		off, on = off+got.Off, on+sum-got.Off
	}
	if min(off, on) < 10000 {
		t.Errorf("%d are off, %d are not", off, on)
	}
}
