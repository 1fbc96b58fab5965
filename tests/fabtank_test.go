package tests

import (
	"math/rand"
	"strconv"
	"testing"

	"loop.example/g00057/impl"
)

func TestTanksOfByHand(t *testing.T) {
	checkTanks(t, "none", bareFab(), ints())
	checkTanks(t, "no tank, but lots", fab(5, plainBook()), ints())
	checkTanks(t, "plain", plainFab(), ints(90, 0, 1000000))
	checkTanks(t, "an empty one", withTanks(tank("a", 5, 0, 0)), ints(0))
	checkTanks(t, "all used", withTanks(tank("a", 5, latest, latest)), ints(0))
	checkTanks(t, "a full one", withTanks(tank("a", 1000000, latest, 999000000)), ints(1000000))
	checkTanks(t, "MaxTanks", withTanks(manyTanks(12)...), ints(2, 2, 2, 2, 2, 2, 2, 2, 2, 2, 2, 2))
	checkTanks(t, "in their order", withTanks(tank("b", 9, 9, 0), tank("a", 9, 9, 8), tank("c", 9, 9, 4)), ints(9, 1, 5))
	checkTanks(t, "one tank more", withTanks(manyTanks(13)...), intsCode(impl.ErrMany))
	checkTanks(t, "the last one wrong", withTanks(append(manyTanks(11), tank("9", 5, 0, 0))...), intsCode(impl.ErrForm))
	checkTanks(t, "more used than filled", withTanks(tank("a", 5, 0, 1)), intsCode(impl.ErrRange))
	checkTanks(t, "nothing", impl.Fab{}, intsCode(impl.ErrRange))
}

// What a tank has is told alike by TanksOf, by have and by the text; it is what was filled less what was used.
func TestTanksHaveWhatWasFilledLessWhatWasUsed(t *testing.T) {
	chance := rand.New(rand.NewSource(308))
	for range 150 {
		most := 1 + chance.Int63n(40)
		f := withTanks(tank("other", 5, 4, 2), tank("a", most, 0, 0))
		filled, used := int64(0), int64(0)
		for range 60 {
			n := 1 + chance.Int63n(most)
			fits := filled+n-used <= most
			line := "fill a " + strconv.FormatInt(n, 10)
			if chance.Intn(2) == 0 {
				fits, line = n <= filled-used, "use a "+strconv.FormatInt(n, 10)
			}
			step := impl.StepFab(f, line)
			if (step.Code == impl.OK) != fits {
				t.Fatalf("%q of %s: %s", line, brief(f), brief(step))
			}
			if !fits {
				continue
			}
			if line[0] == 'f' {
				filled += n
			} else {
				used += n
			}
			f = step.Fab
			checkTanks(t, line, f, ints(2, filled-used))
			checkObeyed(t, line, f, "have a", fabTold(f, numberWordsOf(filled, used, filled-used)))
			checkObeyed(t, line, f, "have other", fabTold(f, "4 2 2"))
		}
		checkFabFormat(t, "at the end", f, "clock 0\nsteps 1\ntank other 5 4 2\ntank a "+numberWordsOf(most, filled, used)+"\n")
	}
}
