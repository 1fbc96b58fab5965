package tests

import (
	"math/rand"
	"runtime"
	"slices"
	"strconv"
	"sync"
	"testing"

	"loop.example/g00057/impl"
)

func TestFaultsOfByHand(t *testing.T) {
	checkFaults(t, "no cells", 0, coverCode(impl.ErrRange))
	checkFaults(t, "one cell has no By", 1, covers(4, 0, cellFault(1, 0, 0), cellFault(1, 0, 1), cellFault(2, 0, 0), cellFault(3, 0, 0)))
	checkFaults(t, "two cells", 2, covers(16, 0,
		cellFault(1, 0, 0), cellFault(1, 0, 1), cellFault(1, 1, 0), cellFault(1, 1, 1),
		cellFault(2, 0, 0), cellFault(2, 1, 0),
		cellFault(3, 0, 0), cellFault(3, 1, 0),
		cellsFault(4, 0, 1, 0), cellsFault(4, 0, 1, 1), cellsFault(4, 1, 0, 0), cellsFault(4, 1, 0, 1),
		cellsFault(5, 0, 1, 0), cellsFault(5, 0, 1, 1), cellsFault(5, 1, 0, 0), cellsFault(5, 1, 0, 1)))
}

func TestFaultsOfBounds(t *testing.T) {
	for _, cells := range probeEnds() {
		checkFaults(t, "so many cells", cells, faultsToldWant(cells))
		if got := impl.FaultsOf(cells); (got.Code == impl.ErrRange) != (cells < 1 || cells > 12) {
			t.Errorf("%d cells: %s", cells, brief(got))
		}
	}
}

// ranksOf has the numbers by which faults are told.
func ranksOf(f impl.MemFault) []int64 {
	return numbers(f.Kind, f.Cell, f.By, f.Value)
}

// Each fault is told once and in order, none that is none, and all that RunMarch takes.
func TestFaultsAreToldOnceAndInOrder(t *testing.T) {
	for cells := int64(1); cells <= 12; cells++ {
		told := impl.FaultsOf(cells)
		if told.All != 4*cells*cells || told.All != int64(len(told.Miss)) || told.Found != 0 {
			t.Errorf("%d cells: %s", cells, brief(told))
		}
		for i, f := range told.Miss {
			if i > 0 && slices.Compare(ranksOf(told.Miss[i-1]), ranksOf(f)) >= 0 {
				t.Errorf("%d cells: %v stands ahead of %v", cells, told.Miss[i-1], f)
			}
			if f.Kind == 0 || impl.RunMarch(exampleMarch(), cells, f).Code != impl.OK {
				t.Errorf("%d cells: %v is none", cells, f)
			}
		}
		taken := int64(0)
		for pair := range 7 * 14 * 14 * 4 {
			f := cellsFault(int64(pair/784), int64(pair/56%14), int64(pair/4%14), int64(pair%4))
			taken += bit(impl.RunMarch(exampleMarch(), cells, f).Code == impl.OK)
		}
		if taken != told.All+1 {
			t.Errorf("%d cells: %d faults are taken, %d are told", cells, taken, told.All)
		}
	}
}

func TestCoverMarchByHand(t *testing.T) {
	checkCoverage(t, "the document's", exampleMarch(), 2, covers(16, 13, cellsFault(4, 0, 1, 1), cellsFault(4, 1, 0, 0), cellsFault(5, 1, 0, 0)))
	checkCoverage(t, "the document's, one cell", exampleMarch(), 1, covers(4, 4))
	checkCoverage(t, "one element that reads 0", marchOf(upward(0)), 1, covers(4, 1, cellFault(1, 0, 0), cellFault(2, 0, 0), cellFault(3, 0, 0)))
	checkCoverage(t, "one element that reads 1", marchOf(upward(3, 1)), 1, covers(4, 2, cellFault(1, 0, 1), cellFault(3, 0, 0)))
	checkCoverage(t, "one element", marchOf(upward(0, 3)), 2, covers(16, 4,
		cellFault(1, 0, 0), cellFault(1, 1, 0), cellFault(2, 0, 0), cellFault(2, 1, 0), cellFault(3, 0, 0), cellFault(3, 1, 0),
		cellsFault(4, 0, 1, 0), cellsFault(4, 0, 1, 1), cellsFault(4, 1, 0, 0),
		cellsFault(5, 0, 1, 0), cellsFault(5, 0, 1, 1), cellsFault(5, 1, 0, 0)))
	checkCoverage(t, "it fails without a fault, but not with some", marchOf(upward(3), upward(0)), 1, covers(4, 2, cellFault(1, 0, 0), cellFault(2, 0, 0)))
	checkCoverage(t, "it fails whatever there is", marchOf(upward(0, 1)), 1, covers(4, 4))
}

func TestCoverMarchOfAllAndOfNone(t *testing.T) {
	for cells := int64(1); cells <= 12; cells++ {
		all := 4 * cells * cells
		checkCoverage(t, "it finds all", fullMarch(), cells, covers(all, all))
		checkCoverage(t, "it reads nothing", blindMarch(), cells, covers(all, 0, faultsWant(cells)...))
		checkCoverage(t, "it is wrong at once", marchOf(upward(0, 1)), cells, covers(all, all))
		checkCoverage(t, "it is wrong at last", append(fullMarch(), upward(1)), cells, covers(all, all))
		checkCoverage(t, "one element", marchOf(downward(3, 2, 0)), cells, coveredWant(marchOf(downward(3, 2, 0)), cells))
		checkCoverage(t, "as long as may be", longMarch(), cells, coveredWant(longMarch(), cells))
		if got := impl.CoverMarch(marchOf(upward(3), upward(0)), cells); got.Found == 0 || cells > 1 && got.Found < got.All {
			t.Errorf("it is wrong without a fault, over %d cells: %s", cells, brief(got))
		}
	}
	// Each element but the first is needed: without it some fault is missed.
	for left := 1; left < len(fullMarch()); left++ {
		march := slices.Delete(fullMarch(), left, left+1)
		if got := impl.CoverMarch(march, 3); got.Found == got.All && !impl.RunMarch(march, 3, impl.MemFault{}).Fail {
			t.Errorf("without element %d: %s", left, brief(got))
		}
	}
}

func TestCoverMarchBounds(t *testing.T) {
	for _, cells := range probeEnds() {
		code := impl.ErrRange * bit(cells < 1 || cells > 12)
		if got := impl.CoverMarch(exampleMarch(), cells); got.Code != code {
			t.Errorf("%d cells: %s", cells, brief(got))
		}
		checkCoverage(t, "so many cells", exampleMarch(), cells, coveredWant(exampleMarch(), cells))
		checkCoverage(t, "so many cells, no march", nil, cells, coverCode(impl.ErrForm))
		checkCoverage(t, "so many cells, too many elements", manyElements(13), cells, coverCode(impl.ErrMany))
	}
}

// Fault by fault: what is found and what is missed are all there are, each once; what is missed makes no read fail.
func TestCoverageIsCountedFaultByFault(t *testing.T) {
	chance := rand.New(rand.NewSource(285))
	full, some := 0, 0
	for i := range 600 {
		cells := 1 + chance.Int63n(numbers(4, 12)[i%2])
		march := someMarch(chance, 1+chance.Intn(12), numbersOf(0, 0, 50)[i%3])
		got := impl.CoverMarch(march, cells)
		checkCoverage(t, "some", march, cells, got)
		told := impl.FaultsOf(cells)
		if got.All != told.All || got.Found+int64(len(got.Miss)) != got.All {
			t.Fatalf("%v over %d cells: %s", march, cells, brief(got))
		}
		for _, f := range told.Miss {
			if impl.RunMarch(march, cells, f).Fail == slices.Contains(got.Miss, f) {
				t.Fatalf("%v over %d cells: %v", march, cells, f)
			}
		}
		full, some = full+int(bit(got.Found == got.All)), some+int(bit(len(got.Miss) > 0 && got.Found > 0))
	}
	if full < 30 || some < 200 {
		t.Errorf("%d find all, %d some", full, some)
	}
}

// A march that goes on finds no fewer: what it misses was missed ahead of that.
func TestMarchThatGoesOnFindsNoFewer(t *testing.T) {
	chance := rand.New(rand.NewSource(286))
	more := 0
	for range 200 {
		cells, march := 1+chance.Int63n(8), someMarch(chance, 12, 0)
		ahead := impl.CoverMarch(march[:1], cells)
		for n := 2; n <= 12; n++ {
			got := impl.CoverMarch(march[:n], cells)
			if got.Found < ahead.Found || slices.ContainsFunc(got.Miss, func(f impl.MemFault) bool { return !slices.Contains(ahead.Miss, f) }) {
				t.Fatalf("%v over %d cells: %s, then %s", march[:n], cells, brief(ahead), brief(got))
			}
			more += int(bit(got.Found > ahead.Found))
			ahead = got
		}
	}
	if more < 200 {
		t.Errorf("%d find more", more)
	}
}

// A march and the one whose ways are turned find the same but for the numbers of the cells.
func TestMarchesThatAreTurned(t *testing.T) {
	chance := rand.New(rand.NewSource(287))
	for range 200 {
		cells, march := 1+chance.Int63n(8), someMarch(chance, 1+chance.Intn(8), 0)
		turned := copyMarch(march)
		for i := range turned {
			turned[i].Down = !turned[i].Down
		}
		var miss []impl.MemFault
		for _, f := range impl.CoverMarch(march, cells).Miss {
			f.Cell = cells - 1 - f.Cell
			if f.Kind > 3 {
				f.By = cells - 1 - f.By
			}
			miss = append(miss, f)
		}
		slices.SortFunc(miss, func(a impl.MemFault, b impl.MemFault) int { return slices.Compare(ranksOf(a), ranksOf(b)) })
		all := 4 * cells * cells
		checkCover(t, "turned", impl.CoverMarch(turned, cells), covers(all, all-int64(len(miss)), miss...))
	}
}

// How marches that run side by side take turns is never seen, however many calls there are at one time; and all have ended behind them.
func TestMarchesSideBySide(t *testing.T) {
	before := runtime.NumGoroutine()
	want := coveredWant(longMarch(), 12)
	var joined sync.WaitGroup
	got := make([]impl.CoverResult, 64)
	faultsTold := make([]impl.CoverResult, len(got))
	for i := range got {
		joined.Go(func() {
			got[i] = impl.CoverMarch(longMarch(), 12)
			faultsTold[i] = impl.FaultsOf(int64(1 + i%12))
		})
	}
	joined.Wait()
	for i := range got {
		checkCover(t, "one of many", got[i], want)
		checkCover(t, "one of many", faultsTold[i], faultsToldWant(int64(1+i%12)))
	}
	checkNoWorkerStays(t, before)
}

// faultNumbers are those of cells at which all is asked again and again.
func faultNumbers() []int64 {
	return numbers(1, 2, 12)
}

// All faults, in order: what is told hangs on the arguments alone, not on how often it was asked, nor on who asks at the same time.
func TestFaultsAreToldHoweverOftenTheyAreAsked(t *testing.T) {
	for round := range 20 {
		for _, cells := range faultNumbers() {
			checkFaults(t, "asked "+strconv.Itoa(round)+" times ahead", cells, covers(4*cells*cells, 0, faultsWant(cells)...))
			checkCoverage(t, "all are missed", blindMarch(), cells, covers(4*cells*cells, 0, faultsWant(cells)...))
			checkCoverage(t, "some are missed", exampleMarch(), cells, coveredWant(exampleMarch(), cells))
			checkCoverage(t, "none is missed", fullMarch(), cells, covers(4*cells*cells, 4*cells*cells))
		}
	}
}

func TestFaultsAreToldToManyAtOneTime(t *testing.T) {
	before := runtime.NumGoroutine()
	asks := 3 * 24
	told, missed, some := make([]impl.CoverResult, asks), make([]impl.CoverResult, asks), make([]impl.CoverResult, asks)
	start := make(chan struct{})
	var joined sync.WaitGroup
	for i := range asks {
		joined.Go(func() {
			<-start
			cells := faultNumbers()[i%3]
			told[i], missed[i], some[i] = impl.FaultsOf(cells), impl.CoverMarch(blindMarch(), cells), impl.CoverMarch(exampleMarch(), cells)
		})
	}
	close(start)
	joined.Wait()
	for i := range asks {
		cells := faultNumbers()[i%3]
		want := covers(4*cells*cells, 0, faultsWant(cells)...)
		checkCover(t, "one of many", told[i], want)
		checkCover(t, "one of many, all missed", missed[i], want)
		checkCover(t, "one of many, some missed", some[i], coveredWant(exampleMarch(), cells))
	}
	checkNoWorkerStays(t, before)
}

// What is written into an answer is not in the next one: the table of faults is not handed out.
func TestTableOfFaultsIsNotHandedOut(t *testing.T) {
	for cells := int64(12); cells >= 1; cells-- {
		one, other, missed := impl.FaultsOf(cells), impl.FaultsOf(cells), impl.CoverMarch(blindMarch(), cells)
		checkApart(t, "three lists", [][]impl.MemFault{one.Miss, other.Miss, missed.Miss}, cellsFault(9, 9, 9, 9), slices.Equal[[]impl.MemFault])
		scribbleAll(one.Miss, cellsFault(9, 9, 9, 9))
		scribbleAll(missed.Miss, cellsFault(9, 9, 9, 9))
		for n := int64(1); n <= 12; n++ {
			checkFaults(t, "behind that", n, faultsToldWant(n))
			checkCoverage(t, "behind that", blindMarch(), n, covers(4*n*n, 0, faultsWant(n)...))
		}
	}
}
