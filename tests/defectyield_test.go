package tests

import (
	"math/rand"
	"slices"
	"testing"

	"loop.example/g00057/impl"
)

func checkSurvival(t *testing.T, what string, list []impl.Defect, sorts []impl.Class, want impl.FracResult) {
	t.Helper()
	if got := impl.SurviveOf(list, sorts); got != want {
		t.Errorf("%s, %s, %s: %v, want %v", what, brief(list), brief(sorts), got, want)
	}
	if got := surviveWant(list, sorts); got != want {
		t.Errorf("%s, %s, %s, plainly: %v, want %v", what, brief(list), brief(sorts), got, want)
	}
}

func checkYield(t *testing.T, what string, list []impl.Defect, sorts []impl.Class, c diceCase, want impl.FracResult) {
	t.Helper()
	if got := impl.YieldOf(list, sorts, c.wide, c.high, c.pitch); got != want {
		t.Errorf("%s, %s, %s, %v: %v, want %v", what, brief(list), brief(sorts), c, got, want)
	}
	if got := yieldWant(list, sorts, c.wide, c.high, c.pitch); got != want {
		t.Errorf("%s, %s, %s, %v, plainly: %v, want %v", what, brief(list), brief(sorts), c, got, want)
	}
}

func TestSurviveOfByHand(t *testing.T) {
	const most = impl.MaxNum
	half, third := ratio(1, 2), ratio(1, 3)
	all := killsBySize(half, third, asFrac(0), asFrac(1), ratio(1, 31623), ratio(1, 31622))
	for _, c := range []struct {
		name  string
		list  []impl.Defect
		sorts []impl.Class
		want  impl.FracResult
	}{
		{"nothing", nil, nil, fracTold(asFrac(1))},
		{"nothing, empty", defects(), classes(), fracTold(asFrac(1))},
		{"no defect", nil, all, fracTold(asFrac(1))},
		{"no class", defectsOf(1, 2, 3), nil, fracTold(asFrac(1))},
		{"none that fits", defectsOf(7, 8, 1000), all, fracTold(asFrac(1))},
		{"one", defectsOf(2), all, fracTold(ratio(2, 3))},
		{"one, and one that none fits", defectsOf(2, 9), all, fracTold(ratio(2, 3))},
		{"two", defectsOf(1, 2), all, fracTold(third)},
		{"the same twice", defectsOf(2, 2), all, fracTold(ratio(4, 9))},
		{"Kill of 0", defectsOf(3, 3, 3), all, fracTold(asFrac(1))},
		{"Kill of 0 beside another", defectsOf(3, 1, 3), all, fracTold(half)},
		{"Kill of 1", defectsOf(4), all, fracTold(asFrac(0))},
		{"Kill of 1 twice", defectsOf(4, 4), all, fracTold(asFrac(0))},
		{"Kill of 1 behind others", defectsOf(1, 2, 4), all, fracTold(asFrac(0))},
		{"Kill of 1 ahead of others", defectsOf(4, 1, 2), all, fracTold(asFrac(0))},
		{"the class that fits first", defects(defect(0, 0, 5, 1)), classes(class(1, 1, 4, 1, asFrac(1)), class(-1, 5, 5, 2, third), class(1, 5, 5, 3, half)), fracTold(ratio(2, 3))},
		{"Low and High", defectsOf(4, 5, 6, 7), classes(class(0, 5, 6, 1, half)), fracTold(ratio(1, 4))},
		{"wherever they lie", defectsAt(0, 0, 10000, 10000), killsAll(half), fracTold(ratio(1, 4))},

		{"the greatest Den, once", defectsOf(1), killsAll(ratio(1, most)), fracTold(ratio(most-1, most))},
		{"the least that is left", defectsOf(1), killsAll(ratio(most-1, most)), fracTold(ratio(1, most))},
		{"the greatest Den, twice", defectsOf(1, 1), killsAll(ratio(1, most)), fracCode(impl.ErrRange)},
		{"just MaxNum", longer(defectsOf(1), 9), killsAll(ratio(1, 10)), fracTold(ratio(387420489, most))},
		{"ten times MaxNum", longer(defectsOf(1), 10), killsAll(ratio(1, 10)), fracCode(impl.ErrRange)},
		{"just below MaxNum", defectsOf(6, 6), all, fracTold(ratio(31621*31621, 31622*31622))},
		{"just above MaxNum", defectsOf(5, 5), all, fracCode(impl.ErrRange)},
		{"just between", defectsOf(5, 6), all, fracTold(ratio(31621, 31623))},
		{"halves, as many as may be", longer(defectsOf(1), 29), all, fracTold(ratio(1, 1<<29))},
		{"halves, one more", longer(defectsOf(1), 30), all, fracCode(impl.ErrRange)},
		{"halves, MaxDefects", longer(defectsOf(1), 60), all, fracCode(impl.ErrRange)},

		{"not right, then Kill of 1", defectsOf(5, 5, 4), all, fracCode(impl.ErrRange)},
		{"Kill of 1, then what would not be right", defectsOf(4, 5, 5), all, fracTold(asFrac(0))},
		{"Kill of 1 just ahead of it", defectsOf(5, 4, 5), all, fracTold(asFrac(0))},
		{"halves, then Kill of 1", append(longer(defectsOf(1), 29), defectsOf(4)...), all, fracTold(asFrac(0))},
		{"one half more, then Kill of 1", append(longer(defectsOf(1), 30), defectsOf(4)...), all, fracCode(impl.ErrRange)},
		{"Kill of 1, then all the halves", append(defectsOf(4), longer(defectsOf(1), 59)...), all, fracTold(asFrac(0))},
		{"not right, then what would make it less", append(longer(defectsOf(1), 30), defectsOf(2, 3)...), all, fracCode(impl.ErrRange)},
	} {
		checkSurvival(t, c.name, c.list, c.sorts, c.want)
	}
}

// A product that is not right on the way is told, even where those behind it would make it right again.
func TestSurviveOfTellsWhatIsNotRightOnTheWay(t *testing.T) {
	const many = 499999999
	sorts := killsBySize(ratio(1, 3), ratio(1, 4), ratio(many-1, many))
	end := fracTold(ratio(1, 2*many))
	checkSurvival(t, "2/3, 3/4, then little", defectsOf(1, 2, 3), sorts, end)
	checkSurvival(t, "3/4, 2/3, then little", defectsOf(2, 1, 3), sorts, end)
	checkSurvival(t, "2/3, then little", defectsOf(1, 3), sorts, fracCode(impl.ErrRange))
	checkSurvival(t, "little, 2/3, then 3/4", defectsOf(3, 1, 2), sorts, fracCode(impl.ErrRange))
	checkSurvival(t, "2/3, little, then 3/4", defectsOf(1, 3, 2), sorts, fracCode(impl.ErrRange))
	checkSurvival(t, "little, 3/4, then 2/3", defectsOf(3, 2, 1), sorts, fracCode(impl.ErrRange))
}

func TestFaultsOfYields(t *testing.T) {
	few := []diceCase{{2, 2, 10}, {20, 20, 1000}, {0, 1, 1}, {1, 21, 1}, {1, 1, 1001}, {leastInt, greatestInt, 0}}
	for _, d := range defectCases() {
		for _, c := range classCases() {
			code := d.code
			if code == impl.OK {
				code = c.code
			}
			want := fracCode(code)
			if code == impl.OK {
				want = surviveWant(d.list, c.list)
			}
			checkSurvival(t, d.name+", "+c.name, d.list, c.list, want)
			for _, dice := range few {
				code := d.code
				if code == impl.OK && !dice.right() {
					code = impl.ErrRange
				}
				if code == impl.OK {
					code = c.code
				}
				want := fracCode(code)
				if code == impl.OK {
					want = yieldWant(d.list, c.list, dice.wide, dice.high, dice.pitch)
				}
				checkYield(t, d.name+", "+c.name, d.list, c.list, dice, want)
			}
		}
	}
}

// The codes come in their order: of the defects, of the dice, of the classes, of what is not right.
func TestOrderOfTheCodesOfYields(t *testing.T) {
	wild, many, wrong := defects(defect(0, 0, 1, 10)), longer(killsAll(asFrac(0)), 21), classes(impl.Class{})
	good, bad := diceCase{1, 1, 100}, diceCase{0, 1, 1}
	far := longer(defectsOf(1), 30)
	checkYield(t, "a kind, wrong dice, wrong classes", wild, many, bad, fracCode(impl.ErrForm))
	checkYield(t, "too many, wrong dice, wrong classes", longer(far, 61), wrong, bad, fracCode(impl.ErrMany))
	checkYield(t, "wrong dice, wrong classes", far, wrong, bad, fracCode(impl.ErrRange))
	checkYield(t, "wrong dice, too many classes", far, many, bad, fracCode(impl.ErrRange))
	checkYield(t, "wrong classes, not right", far, append(killsAll(ratio(1, 2)), wrong...), good, fracCode(impl.ErrForm))
	checkYield(t, "too many classes, not right", far, longer(killsAll(ratio(1, 2)), 21), good, fracCode(impl.ErrMany))
	checkYield(t, "not right", far, killsAll(ratio(1, 2)), good, fracCode(impl.ErrRange))
	checkYield(t, "no defect, wrong classes", nil, wrong, good, fracCode(impl.ErrForm))
	checkYield(t, "no defect, wrong dice", nil, nil, bad, fracCode(impl.ErrRange))
	checkSurvival(t, "wrong classes, not right", far, append(killsAll(ratio(1, 2)), wrong...), fracCode(impl.ErrForm))
	checkSurvival(t, "a kind, too many classes", wild, many, fracCode(impl.ErrForm))
}

func TestYieldOfByHand(t *testing.T) {
	const most = impl.MaxNum
	half, pair := ratio(1, 2), diceCase{2, 1, 10}
	for _, c := range []struct {
		name  string
		list  []impl.Defect
		sorts []impl.Class
		dice  diceCase
		want  impl.FracResult
	}{
		{"nothing", nil, nil, diceCase{1, 1, 1}, fracTold(asFrac(1))},
		{"nothing, on all dice", nil, nil, diceCase{20, 20, 1000}, fracTold(asFrac(1))},
		{"no class", defectsAt(0, 0, 1, 1), nil, pair, fracTold(asFrac(1))},
		{"none that fits", defectsOf(2, 3), killsBySize(asFrac(1)), pair, fracTold(asFrac(1))},
		{"one die of two", defectsAt(0, 0), killsAll(half), pair, fracTold(ratio(3, 4))},
		{"the other die", defectsAt(10, 0), killsAll(half), pair, fracTold(ratio(3, 4))},
		{"both dice", defectsAt(0, 0, 10, 0), killsAll(half), pair, fracTold(half)},
		{"both in one die", defectsAt(0, 0, 9, 9), killsAll(half), pair, fracTold(ratio(5, 8))},
		{"on no die", defectsAt(20, 0, 0, 10, 20, 10), killsAll(asFrac(1)), pair, fracTold(asFrac(1))},
		{"on no die, and on one", defectsAt(20, 0, 5, 5), killsAll(asFrac(1)), pair, fracTold(half)},
		{"all dead", defectsAt(0, 0, 10, 0), killsAll(asFrac(1)), pair, fracTold(asFrac(0))},
		{"one dead of 400", defectsAt(19, 19), killsAll(asFrac(1)), diceCase{20, 20, 1}, fracTold(ratio(399, 400))},
		{"two rows", defectsAt(0, 0, 10, 0, 10, 0), killsAll(half), diceCase{2, 2, 10}, fracTold(ratio(11, 16))},
		{"one die, all that survives", defectsAt(0, 0, 10, 0, 10, 0), killsAll(half), diceCase{1, 1, 1000}, fracTold(ratio(1, 8))},
		{"by kind", defects(defect(0, 0, 1, 1), defect(10, 0, 1, 2), defect(10, 0, 1, 3)), classes(class(1, 1, 9, 1, ratio(1, 3)), class(2, 1, 9, 2, ratio(1, 4))), pair, fracTold(ratio(17, 24))},

		{"a product that is not right", longer(defectsAt(5, 5), 30), killsAll(half), pair, fracCode(impl.ErrRange)},
		{"the same in two dice", append(longer(defectsAt(5, 5), 29), longer(defectsAt(15, 5), 29)...), killsAll(half), pair, fracTold(ratio(1, 1<<29))},
		{"the same on no die", longer(defectsAt(25, 5), 60), killsAll(half), pair, fracTold(asFrac(1))},
		{"a sum whose Num is just right", longer(defectsAt(5, 5), 8), killsAll(ratio(1, 10)), pair, fracTold(ratio(143046721, 200000000))},
		{"a sum whose Num is not right", longer(defectsAt(5, 5), 9), killsAll(ratio(1, 10)), pair, fracCode(impl.ErrRange)},
		{"that sum in one die", longer(defectsAt(5, 5), 9), killsAll(ratio(1, 10)), diceCase{1, 1, 10}, fracTold(ratio(387420489, most))},
		{"a quotient at the bound", defects(defect(0, 0, 1, 0), defect(10, 0, 2, 0)), killsBySize(ratio(most/2-1, most/2), asFrac(1)), pair, fracTold(ratio(1, most))},
		{"a quotient that is not right", defects(defect(0, 0, 1, 0), defect(10, 0, 2, 0), defect(20, 0, 2, 0)), killsBySize(ratio(most/2-1, most/2), asFrac(1)), diceCase{3, 1, 10}, fracCode(impl.ErrRange)},
		{"a quotient of one die", defectsOf(1), killsAll(ratio(most-1, most)), diceCase{1, 1, 1}, fracTold(ratio(1, most))},
		{"that by two", defects(defect(0, 0, 1, 0), defect(10, 0, 2, 0)), killsBySize(ratio(most-1, most), asFrac(1)), pair, fracCode(impl.ErrRange)},
	} {
		checkYield(t, c.name, c.list, c.sorts, c.dice, c.want)
	}
}

// The dice are added row by row: the order tells whether a sum on the way is right.
func TestYieldOfSumsRowByRow(t *testing.T) {
	sorts := killsBySize(ratio(31622, 31623), ratio(31624, 31625), ratio(1, 31625), asFrac(1))
	at := func(places ...int64) []impl.Defect {
		var list []impl.Defect
		for i, size := range places {
			list = append(list, defect(int64(i%2)*10, int64(i/2)*10, size, 0))
		}
		return list
	}
	four := diceCase{2, 2, 10}
	right := fracTold(ratio(31624/4, 31623))
	checkYield(t, "the two that make one, then the other", at(2, 3, 4, 1), sorts, four, right)
	checkYield(t, "one between them that is 0", at(2, 4, 3, 1), sorts, four, right)
	checkYield(t, "the other first", at(1, 2, 3, 4), sorts, four, fracCode(impl.ErrRange))
	checkYield(t, "the other between them", at(2, 1, 4, 3), sorts, four, fracCode(impl.ErrRange))
	checkYield(t, "right row by row, not column by column", at(2, 3, 1, 4), sorts, four, right)
	checkYield(t, "right column by column, not row by row", at(2, 1, 3, 4), sorts, four, fracCode(impl.ErrRange))
	// The order of the defects does not matter, where they lie on dice of their own.
	for _, list := range [][]impl.Defect{at(2, 3, 1, 4), at(1, 2, 3, 4)} {
		turned := slices.Clone(list)
		slices.Reverse(turned)
		if impl.YieldOf(list, sorts, 2, 2, 10) != impl.YieldOf(turned, sorts, 2, 2, 10) {
			t.Errorf("%v: the order of the defects turns the sum", list)
		}
	}
}

// Pairs and triples of hard kills, on one die and on several.
func TestYieldsOfHardKills(t *testing.T) {
	kills := yieldKills()
	met := map[int64]int{}
	for i := range len(kills) * len(kills) * len(kills) {
		sorts := killsBySize(kills[i%len(kills)], kills[i/len(kills)%len(kills)], kills[i/len(kills)/len(kills)])
		list := defectsOf(1, 2, 3)
		want := surviveWant(list, sorts)
		checkSurvival(t, "three", list, sorts, want)
		met[want.Code]++
		for _, c := range []diceCase{{1, 1, 10}, {3, 1, 1}, {2, 1, 2}, {4, 2, 1}} {
			want := yieldWant(list, sorts, c.wide, c.high, c.pitch)
			checkYield(t, "three", list, sorts, c, want)
			met[want.Code]++
		}
	}
	if min(met[impl.OK], met[impl.ErrRange]) < 1000 {
		t.Errorf("the codes are %v", met)
	}
}

func isYield(r impl.FracResult) bool {
	return r.Code == impl.OK && isRight(r.Frac) && r.Frac.Num >= 0 && r.Frac.Num <= r.Frac.Den
}

// Yields lie from 0 to 1, and never rise when a defect comes.
func TestYieldsFallWithDefects(t *testing.T) {
	chance, fell, stayed, lost := rand.New(rand.NewSource(166)), 0, 0, 0
	for i := range 600 {
		all := someDefects(chance, 1+chance.Intn(24), numbers(30, 60)[i%2], 5)
		sorts := someClasses(chance, 1+chance.Intn(6), 5, numbers(2, 4, 12, 4000)[i%4])
		c := diceCase{1 + chance.Int63n(4), 1 + chance.Int63n(4), 10}
		last, survived := fracTold(asFrac(1)), fracTold(asFrac(1))
		for n := range len(all) + 1 {
			want, left := yieldWant(all[:n], sorts, c.wide, c.high, c.pitch), surviveWant(all[:n], sorts)
			checkYield(t, "some", all[:n], sorts, c, want)
			checkSurvival(t, "some", all[:n], sorts, left)
			if want.Code != impl.OK || left.Code != impl.OK {
				lost++
				break
			}
			now, lives := impl.YieldOf(all[:n], sorts, c.wide, c.high, c.pitch), impl.SurviveOf(all[:n], sorts)
			if !isYield(now) || !isYield(lives) || impl.CompareFrac(now.Frac, last.Frac) > 0 || impl.CompareFrac(lives.Frac, survived.Frac) > 0 {
				t.Errorf("%s, %s, %v: %v behind %v, %v behind %v", brief(all[:n]), brief(sorts), c, now, last, lives, survived)
			}
			if now == last {
				stayed++
			} else {
				fell++
			}
			last, survived = now, lives
		}
	}
	if min(fell, stayed, lost) < 50 {
		t.Errorf("%d fell, %d stayed, %d were lost", fell, stayed, lost)
	}
}

// On one die that has them all a yield is what survives; on no die it is 1.
func TestYieldsOfOneDie(t *testing.T) {
	chance := rand.New(rand.NewSource(167))
	for range 1000 {
		list := someDefects(chance, chance.Intn(20), 1000, 5)
		sorts := someClasses(chance, chance.Intn(8), 5, 6)
		if got, want := impl.YieldOf(list, sorts, 1, 1, 1000), impl.SurviveOf(list, sorts); got != want {
			t.Errorf("%s, %s: %v, want %v", brief(list), brief(sorts), got, want)
		}
		for i := range list {
			list[i].X += 1000
		}
		checkYield(t, "on no die", list, sorts, diceCase{1, 1, 1000}, fracTold(asFrac(1)))
	}
}
