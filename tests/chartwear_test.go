package tests

import (
	"math/rand"
	"testing"

	"loop.example/g00057/impl"
)

// wearCase is what wear comes to.
type wearCase struct {
	name  string
	wear  []int64
	limit int64
	want  impl.IntsResult
}

func checkWear(t *testing.T, c wearCase) {
	t.Helper()
	checkInts(t, c.name, impl.WearOf(c.wear, c.limit), c.want)
	checkInts(t, c.name+", plainly", wearWant(c.wear, c.limit), c.want)
}

func TestWearOfByHand(t *testing.T) {
	for _, c := range []wearCase{
		{"no list", nil, 10, ints()},
		{"no number", numbers(), 10, ints()},
		{"one", numbers(4), 10, ints(4)},
		{"it adds up", numbers(1, 2, 3), 10, ints(1, 3, 6)},
		{"a sum at just limit", numbers(4, 6), 10, ints(4, 10)},
		{"a sum one above", numbers(4, 7), 10, ints(4, 7)},
		{"a sum one above, then on", numbers(4, 7, 3), 10, ints(4, 7, 10)},
		{"a sum one above, then again", numbers(4, 7, 4), 10, ints(4, 7, 4)},
		{"0 behind limit", numbers(4, 6, 0), 10, ints(4, 10, 10)},
		{"1 behind limit", numbers(4, 6, 1), 10, ints(4, 10, 1)},
		{"a number at just limit", numbers(10, 10), 10, ints(10, 10)},
		{"a number above limit", numbers(11), 10, ints(11)},
		{"a number above limit behind others", numbers(3, 11), 10, ints(3, 11)},
		{"a number above limit ahead of others", numbers(11, 3, 4), 10, ints(11, 3, 7)},
		{"a number above limit, then 0", numbers(11, 0, 4), 10, ints(11, 0, 4)},
		{"numbers above limit", numbers(11, 12, 13), 10, ints(11, 12, 13)},
		{"far above limit, then limit", numbers(mostCharted, 10), 10, ints(mostCharted, 10)},
		{"noughts", numbers(0, 0, 0), 1, ints(0, 0, 0)},
		{"ones, the least limit", numbers(1, 1, 0, 1), 1, ints(1, 1, 1, 1)},
		{"as much as there may be", numbers(mostCharted, mostCharted), mostCharted, ints(mostCharted, mostCharted)},
		{"just that in two goes", numbers(1, mostCharted-1, 1), mostCharted, ints(1, mostCharted, 1)},
		{"every third", longer(numbers(3), 7), 10, ints(3, 6, 9, 3, 6, 9, 3)},
	} {
		checkWear(t, c)
	}
}

func TestWearOfFaults(t *testing.T) {
	const most = mostCharted
	for _, c := range []wearCase{
		{"a number of -1", numbers(-1), 10, intsCode(impl.ErrRange)},
		{"a number of -1 behind others", numbers(5, 6, -1), 10, intsCode(impl.ErrRange)},
		{"a number of 0", numbers(0), 10, ints(0)},
		{"the greatest number", numbers(most), 10, ints(most)},
		{"a number one more", numbers(most + 1), 10, intsCode(impl.ErrRange)},
		{"the least number", numbers(leastInt), 10, intsCode(impl.ErrRange)},
		{"the greatest there is", numbers(greatestInt), 10, intsCode(impl.ErrRange)},
		{"limit -1", numbers(1), -1, intsCode(impl.ErrRange)},
		{"limit 0", numbers(1), 0, intsCode(impl.ErrRange)},
		{"limit 0, noughts", numbers(0), 0, intsCode(impl.ErrRange)},
		{"limit 1", numbers(1), 1, ints(1)},
		{"the greatest limit", numbers(1), most, ints(1)},
		{"limit one more", numbers(1), most + 1, intsCode(impl.ErrRange)},
		{"no number, limit 0", nil, 0, intsCode(impl.ErrRange)},
		{"no number, limit one more", nil, most + 1, intsCode(impl.ErrRange)},
		{"the least limit there is", numbers(1), leastInt, intsCode(impl.ErrRange)},
		{"the greatest limit there is", numbers(1), greatestInt, intsCode(impl.ErrRange)},
		{"MaxChart", longer(numbers(1), 200), 10, ints(longer(counting(11)[1:], 200)...)},
		{"one more", longer(numbers(1), 201), 10, intsCode(impl.ErrMany)},
		{"one more, limit 0", longer(numbers(1), 201), 0, intsCode(impl.ErrMany)},
		{"one more, all -1", longer(numbers(-1), 201), 10, intsCode(impl.ErrMany)},
		{"one more, the first too great", append(numbers(most+1), longer(numbers(1), 200)...), 10, intsCode(impl.ErrMany)},
		{"far too many", longer(numbers(leastInt), 100000), leastInt, intsCode(impl.ErrMany)},
		{"MaxChart, the last -1", append(longer(numbers(1), 199), -1), 10, intsCode(impl.ErrRange)},
		{"MaxChart, the first -1", append(numbers(-1), longer(numbers(1), 199)...), 10, intsCode(impl.ErrRange)},
	} {
		checkWear(t, c)
	}
	for _, n := range chartEnds() {
		for _, limit := range chartEnds() {
			checkWear(t, wearCase{"two ends", numbers(3, n, 4), limit, wearWant(numbers(3, n, 4), limit)})
		}
	}
}

func TestWearOfAllSmall(t *testing.T) {
	for _, wear := range allCharts(6, 0, 1, 2, 5) {
		for limit := int64(1); limit <= 7; limit++ {
			checkWear(t, wearCase{"a small list", wear, limit, wearWant(wear, limit)})
		}
	}
}

// Some lists, and their beginnings. What is worn is above limit only where a single number is.
func TestWearOfSomeLists(t *testing.T) {
	chance, anew := rand.New(rand.NewSource(181)), 0
	for i := range 600 {
		most := numbers(4, 90, mostCharted)[i%3]
		wear, limit := sizesOf(someRuns(chance, chance.Intn(201), most)), 1+chance.Int63n(min(mostCharted, 3*most))
		whole := impl.WearOf(wear, limit)
		checkInts(t, "some", whole, wearWant(wear, limit))
		for k, n := range whole.List {
			if n > limit && n != wear[k] {
				t.Errorf("%s: %s leaves %d", brief(wear), brief(whole), limit)
			}
			anew += int(bit(k > 0 && n == wear[k] && whole.List[k-1] > 0))
		}
		for places := 0; places <= len(wear); places += 1 + i%7 {
			checkInts(t, "a beginning", impl.WearOf(wear[:places], limit), ints(whole.List[:places]...))
		}
	}
	if anew < 1000 {
		t.Errorf("%d times it is 0 again", anew)
	}
}
