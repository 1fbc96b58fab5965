package tests

import (
	"math/rand"
	"slices"
	"testing"

	"loop.example/g00057/impl"
)

// marchRun is a march over some cells of which one has a fault.
type marchRun struct {
	name  string
	march []impl.Element
	cells int64
	fault impl.MemFault
	want  impl.MarchResult
}

func checkMarchRuns(t *testing.T, cases []marchRun) {
	t.Helper()
	for _, c := range cases {
		checkMarched(t, c.name, c.march, c.cells, c.fault, c.want)
	}
}

// passes is what is told of a march no read of which fails.
func passes() impl.MarchResult {
	return impl.MarchResult{}
}

func TestRunMarchOfCellsThatAreStuck(t *testing.T) {
	zeros, ones := marchOf(upward(2), upward(0)), marchOf(upward(3), upward(1))
	checkMarchRuns(t, []marchRun{
		{"the document's", exampleMarch(), 2, cellFault(1, 1, 1), failsAt(4, 1)},
		{"at 0, nothing is written but 0", zeros, 3, cellFault(1, 1, 0), passes()},
		{"at 0, 1 is written", ones, 3, cellFault(1, 1, 0), failsAt(4, 1)},
		{"at 1, 0 is written", zeros, 3, cellFault(1, 1, 1), failsAt(4, 1)},
		{"at 1, nothing is written but 1", ones, 3, cellFault(1, 1, 1), passes()},
		{"at 1 from the first on", marchOf(upward(0)), 3, cellFault(1, 2, 1), failsAt(2, 2)},
		{"at 1 from the first on, downward", marchOf(downward(0)), 3, cellFault(1, 2, 1), failsAt(0, 2)},
		{"at 0 from the first on", marchOf(upward(0)), 3, cellFault(1, 2, 0), passes()},
		{"the other cells are 0 from the first on", marchOf(upward(1)), 3, cellFault(1, 0, 1), failsAt(1, 1)},
		{"the first Op of all", marchOf(upward(0, 3), upward(1)), 2, cellFault(1, 0, 1), failsAt(0, 0)},
		{"the last Op of all", marchOf(upward(3), upward(2), downward(3, 1)), 2, cellFault(1, 0, 0), failsAt(7, 0)},
		{"the only one", marchOf(upward(0)), 1, cellFault(1, 0, 1), failsAt(0, 0)},
		{"upward, the last cell", ones, 3, cellFault(1, 2, 0), failsAt(5, 2)},
		{"downward, the last cell", marchOf(downward(3), downward(1)), 3, cellFault(1, 2, 0), failsAt(3, 2)},
		{"downward, the first cell", marchOf(upward(3), downward(1)), 3, cellFault(1, 0, 0), failsAt(5, 0)},
		{"a read behind its own write", marchOf(upward(3, 1)), 3, cellFault(1, 1, 0), failsAt(3, 1)},
		{"twelve cells", ones, 12, cellFault(1, 11, 0), failsAt(23, 11)},
		{"a read that is not of the last value", marchOf(upward(3, 2, 3, 1)), 2, cellFault(1, 1, 0), failsAt(7, 1)},
	})
}

func TestRunMarchOfCellsThatDoNotTurn(t *testing.T) {
	checkMarchRuns(t, []marchRun{
		{"no rise", marchOf(upward(3), downward(1)), 3, cellFault(2, 0, 0), failsAt(5, 0)},
		{"no rise, nothing is read behind it", marchOf(upward(0, 3)), 3, cellFault(2, 0, 0), passes()},
		{"no rise, nothing is to rise", marchOf(upward(2), upward(0, 2, 0)), 3, cellFault(2, 0, 0), passes()},
		{"no rise at a second write", marchOf(upward(3, 3, 1)), 3, cellFault(2, 1, 0), failsAt(5, 1)},
		{"no rise behind a fall", marchOf(upward(2, 3), upward(1)), 2, cellFault(2, 1, 0), failsAt(5, 1)},
		{"no rise, 0 is read", marchOf(upward(3), upward(2), upward(0)), 2, cellFault(2, 1, 0), passes()},
		{"no fall", marchOf(upward(3), upward(2), upward(0)), 3, cellFault(3, 2, 0), failsAt(8, 2)},
		{"no fall, it rises", marchOf(upward(3), upward(1)), 3, cellFault(3, 2, 0), passes()},
		{"no fall, it has not risen", marchOf(upward(2), upward(0)), 3, cellFault(3, 2, 0), passes()},
		{"no fall at a second write", marchOf(upward(3, 2, 2, 0)), 2, cellFault(3, 0, 0), failsAt(3, 0)},
		{"no fall, 1 is read", marchOf(upward(3), upward(2), upward(3), upward(1)), 2, cellFault(3, 0, 0), passes()},
		{"no fall, of one cell", marchOf(downward(0, 3, 1, 2, 0)), 1, cellFault(3, 0, 0), failsAt(4, 0)},
	})
}

// A fault that hits two cells: one that is tested later, or that was tested earlier.
func TestRunMarchOfCellsThatAreForced(t *testing.T) {
	rise := marchOf(upward(2), upward(0, 3))
	checkMarchRuns(t, []marchRun{
		{"a rise forces 1 on one that is tested later", rise, 3, cellsFault(4, 2, 0, 1), failsAt(7, 2)},
		{"a rise forces 1 on the next one", rise, 3, cellsFault(4, 1, 0, 1), failsAt(5, 1)},
		{"a rise forces 1 on one that was tested earlier", rise, 3, cellsFault(4, 0, 2, 1), passes()},
		{"the same, downward", marchOf(upward(2), downward(0, 3)), 3, cellsFault(4, 0, 2, 1), failsAt(7, 0)},
		{"the same, and it is read once more", append(rise, upward(1)), 3, cellsFault(4, 0, 2, 1), passes()},
		{"a rise forces 0 on one that is tested later", append(rise, upward(1)), 3, cellsFault(4, 2, 0, 0), passes()},
		{"a rise forces 0 on one that was tested earlier", append(rise, upward(1)), 3, cellsFault(4, 0, 2, 0), failsAt(9, 0)},
		{"a fall forces 1 on one that was tested earlier", marchOf(upward(3), upward(2), upward(0)), 3, cellsFault(4, 0, 1, 1), failsAt(6, 0)},
		{"a fall forces 1 on one that is tested later, and written", marchOf(upward(3), upward(2), upward(0)), 3, cellsFault(4, 2, 1, 1), passes()},
		{"a fall forces 0 on one that is tested later", marchOf(upward(3), upward(1, 2)), 3, cellsFault(4, 2, 1, 0), failsAt(7, 2)},
		{"a write that turns nothing", marchOf(upward(2), upward(2), upward(0)), 3, cellsFault(4, 0, 1, 1), passes()},
		{"a second write of 1 turns nothing", marchOf(upward(3), upward(3), upward(1)), 3, cellsFault(4, 0, 1, 0), passes()},
		{"a write of 1 behind one forces nothing", marchOf(downward(3), upward(2, 3, 3, 1)), 2, cellsFault(4, 0, 1, 0), passes()},
		{"a write to the cell itself is as it should be", marchOf(upward(3, 1), upward(1, 2, 0)), 2, cellsFault(4, 0, 1, 1), passes()},
		{"forced, then written anew", marchOf(upward(0), downward(3), upward(2), upward(0)), 2, cellsFault(4, 1, 0, 1), passes()},
		{"a read of By, too, is no write", marchOf(upward(0, 0), downward(0)), 2, cellsFault(4, 1, 0, 1), passes()},
		{"the first write of all", marchOf(upward(3), downward(1)), 2, cellsFault(4, 1, 0, 0), passes()},
		{"the last write of all", marchOf(downward(3, 1), downward(1)), 2, cellsFault(4, 1, 0, 0), failsAt(4, 1)},
		{"far apart", marchOf(upward(0, 3)), 12, cellsFault(4, 11, 0, 1), failsAt(22, 11)},
	})
}

func TestRunMarchOfCellsThatFlip(t *testing.T) {
	rise, fall := marchOf(upward(0, 3)), marchOf(upward(3), upward(1, 2), upward(0))
	checkMarchRuns(t, []marchRun{
		{"a rise flips one that is tested later", rise, 3, cellsFault(5, 2, 0, 1), failsAt(4, 2)},
		{"a rise flips one that was tested earlier", rise, 3, cellsFault(5, 0, 2, 1), passes()},
		{"the same, and it is read once more", append(rise, upward(1)), 3, cellsFault(5, 0, 2, 1), failsAt(6, 0)},
		{"a rise flips nothing where a fall is to", append(rise, upward(1)), 3, cellsFault(5, 0, 2, 0), passes()},
		{"a fall flips one that is tested later", fall, 3, cellsFault(5, 2, 0, 0), failsAt(7, 2)},
		{"a fall flips one that was tested earlier", fall, 3, cellsFault(5, 0, 2, 0), failsAt(9, 0)},
		{"the same at the first rise of all", marchOf(upward(3), upward(1)), 3, cellsFault(5, 0, 1, 0), passes()},
		{"from 1 to 0", marchOf(downward(3), downward(1)), 2, cellsFault(5, 1, 0, 1), failsAt(2, 1)},
		{"from 0 to 1", marchOf(upward(2), upward(0, 3)), 2, cellsFault(5, 1, 0, 1), failsAt(4, 1)},
		{"twice is never", marchOf(upward(0, 3, 2, 3, 2)), 2, cellsFault(5, 1, 0, 1), passes()},
		{"three times is once", marchOf(upward(0, 3, 2, 3, 2, 3)), 2, cellsFault(5, 1, 0, 1), failsAt(6, 1)},
		{"a write that turns nothing", marchOf(upward(2, 2), upward(0)), 2, cellsFault(5, 1, 0, 0), passes()},
		{"a second rise that is none", marchOf(upward(0, 3, 3)), 2, cellsFault(5, 1, 0, 1), failsAt(3, 1)},
		{"flipped, then written anew", marchOf(upward(3), upward(1)), 2, cellsFault(5, 1, 0, 1), passes()},
		{"a write to the cell itself flips nothing", marchOf(upward(0), downward(3, 1, 2, 0)), 2, cellsFault(5, 0, 1, 1), passes()},
		{"far apart, downward", marchOf(downward(0, 3)), 12, cellsFault(5, 0, 11, 1), failsAt(22, 0)},
	})
}

func TestRunMarchWithoutAFault(t *testing.T) {
	none := impl.MemFault{}
	checkMarchRuns(t, []marchRun{
		{"the example", exampleMarch(), 2, none, passes()},
		{"all cells are 0 at first", marchOf(upward(0), downward(0)), 12, none, passes()},
		{"no read", blindMarch(), 3, none, passes()},
		{"as long as may be", longMarch(), 12, none, passes()},
		{"wrong from the first on", marchOf(upward(1)), 3, none, failsAt(0, 0)},
		{"wrong from the first on, downward", marchOf(downward(1)), 3, none, failsAt(0, 2)},
		{"0 behind 1", marchOf(upward(3), downward(0)), 3, none, failsAt(3, 2)},
		{"1 behind 0", marchOf(upward(3), upward(2), upward(1)), 3, none, failsAt(6, 0)},
		{"wrong at a cell that another element did not reach yet", marchOf(upward(3, 2, 3), upward(1, 2, 1)), 2, none, failsAt(8, 0)},
		{"wrong at the second cell", marchOf(upward(3), upward(2, 0, 3), upward(1), downward(1, 1, 1, 1, 1, 1, 1, 0)), 2, none, failsAt(17, 1)},
		{"wrong at the last read of all", append(longMarch()[:11], upward(2, 2, 2, 2, 2, 2, 2, 1)), 1, none, failsAt(95, 0)},
	})
}

// Steps are counted over all elements, and every read and write is one.
func TestStepsOfSeveralElements(t *testing.T) {
	for before := range 11 {
		for cells := int64(1); cells <= 12; cells++ {
			for at := range cells {
				march := append(longer(marchOf(upward(0, 2, 0, 2, 0, 0, 2, 2), downward(0, 2, 2, 0, 2, 0, 0, 0)), before), upward(2), downward(2, 3, 1))
				ahead := int64(before)*8*cells + cells + (cells-1-at)*3
				checkMarched(t, "behind so many elements", march[:before+2], cells, cellFault(2, at, 0), failsAt(ahead+2, at))
			}
		}
	}
}

func TestRunMarchBounds(t *testing.T) {
	for _, cells := range probeEnds() {
		code := impl.ErrRange * bit(cells < 1 || cells > 12)
		checkMarched(t, "so many cells", exampleMarch(), cells, impl.MemFault{}, marchCode(code))
		checkMarched(t, "so many cells, a Kind that is none", exampleMarch(), cells, cellFault(6, 0, 0), marchCode(max(code, impl.ErrForm)))
		checkMarched(t, "so many cells, no march", nil, cells, cellFault(6, 0, 0), marchCode(impl.ErrForm))
		checkMarched(t, "so many cells, too many elements", manyElements(13), cells, cellFault(6, 0, 0), marchCode(impl.ErrMany))
	}
	last := marchOf(upward(0))
	checkMarchRuns(t, []marchRun{
		{"one cell", last, 1, cellFault(1, 0, 1), failsAt(0, 0)},
		{"one cell, the second one", last, 1, cellFault(1, 1, 1), marchCode(impl.ErrForm)},
		{"one cell forces itself", last, 1, cellsFault(4, 0, 0, 1), marchCode(impl.ErrForm)},
		{"one cell is forced by a second one", last, 1, cellsFault(4, 0, 1, 1), marchCode(impl.ErrForm)},
		{"MaxCellsTest cells", last, 12, cellFault(1, 11, 1), failsAt(11, 11)},
		{"the cell behind them", last, 12, cellFault(1, 12, 1), marchCode(impl.ErrForm)},
		{"By the last cell", last, 12, cellsFault(5, 0, 11, 1), passes()},
		{"By the cell behind it", last, 12, cellsFault(5, 0, 12, 1), marchCode(impl.ErrForm)},
	})
}

func TestFaultsThatAreNone(t *testing.T) {
	march := marchOf(upward(2), upward(0, 3))
	wrong := marchCode(impl.ErrForm)
	checkMarchRuns(t, []marchRun{
		{"Kind -1", march, 3, cellFault(-1, 0, 0), wrong},
		{"Kind 0", march, 3, cellFault(0, 0, 0), passes()},
		{"Kind 5", march, 3, cellsFault(5, 0, 1, 0), passes()},
		{"Kind 6", march, 3, cellFault(6, 0, 0), wrong},
		{"Kind 6 of two cells", march, 3, cellsFault(6, 0, 1, 0), wrong},
		{"Kind 0 of a cell", march, 3, cellFault(0, 1, 0), wrong},
		{"Kind 0 By a cell", march, 3, cellsFault(0, 0, 1, 0), wrong},
		{"Kind 0 of a Value", march, 3, cellFault(0, 0, 1), wrong},
		{"Kind 0 of a cell that is none", march, 3, cellFault(0, 3, 0), wrong},
		{"stuck By a cell", march, 3, cellsFault(1, 0, 1, 0), wrong},
		{"stuck By -1", march, 3, cellsFault(1, 0, -1, 0), wrong},
		{"stuck, its By is its cell, and not 0", march, 3, cellsFault(1, 1, 1, 0), wrong},
		{"stuck, its By is its cell, and 0", march, 3, cellsFault(1, 0, 0, 0), passes()},
		{"stuck at -1", march, 3, cellFault(1, 0, -1), wrong},
		{"stuck at 2", march, 3, cellFault(1, 0, 2), wrong},
		{"no rise of a Value", march, 3, cellFault(2, 0, 1), wrong},
		{"no rise By a cell", march, 3, cellsFault(2, 0, 1, 0), wrong},
		{"no fall of a Value", march, 3, cellFault(3, 0, 1), wrong},
		{"no fall By a cell", march, 3, cellsFault(3, 0, 2, 0), wrong},
		{"forced By itself", march, 3, cellsFault(4, 1, 1, 0), wrong},
		{"forced By itself, cell 0", march, 3, cellsFault(4, 0, 0, 0), wrong},
		{"forced By -1", march, 3, cellsFault(4, 1, -1, 0), wrong},
		{"forced to 2", march, 3, cellsFault(4, 1, 0, 2), wrong},
		{"flipped By itself", march, 3, cellsFault(5, 2, 2, 1), wrong},
		{"flipped By 3", march, 3, cellsFault(5, 2, 3, 1), wrong},
		{"flipped by -1", march, 3, cellsFault(5, 2, 0, -1), wrong},
	})
}

// All fields that may be, and those just beside: a march is run of just those that FaultsOf tells, and of none.
func TestAllFaultsNearTheBounds(t *testing.T) {
	for cells := int64(1); cells <= 4; cells++ {
		list := append(faultsWant(cells), impl.MemFault{})
		for kind := int64(-1); kind <= 6; kind++ {
			for cell := int64(-1); cell <= cells; cell++ {
				for by := int64(-1); by <= cells; by++ {
					for bit := int64(-1); bit <= 2; bit++ {
						f := cellsFault(kind, cell, by, bit)
						want := marchCode(impl.ErrForm)
						if slices.Contains(list, f) {
							want = failWant(exampleMarch(), cells, f)
						}
						checkMarched(t, "near the bounds", exampleMarch(), cells, f, want)
					}
				}
			}
		}
	}
	for _, n := range probeEnds() {
		for _, f := range []impl.MemFault{cellFault(n, 1, 0), cellFault(1, n, 1), cellsFault(4, n, 1, 0), cellsFault(5, 1, n, 1), cellsFault(4, 1, 0, n), cellFault(1, 1, n), cellsFault(2, 1, n, 0), cellFault(3, 1, n), cellFault(0, n, 0), cellFault(0, 0, n), cellsFault(0, 0, n, 0)} {
			for _, cells := range numbers(3, 12) {
				checkMarched(t, "an end", exampleMarch(), cells, f, marchedWant(exampleMarch(), cells, f))
			}
		}
	}
}

// allElements are all of one Op and of two, upward and downward.
func allElements() []impl.Element {
	var list []impl.Element
	for _, down := range []bool{false, true} {
		for first := range int64(4) {
			list = append(list, impl.Element{Down: down, Ops: numbers(first)})
			for second := range int64(4) {
				list = append(list, impl.Element{Down: down, Ops: numbers(first, second)})
			}
		}
	}
	return list
}

func TestRunMarchOfAllSmall(t *testing.T) {
	failed, passed := 0, 0
	for _, first := range allElements() {
		for _, second := range allElements() {
			for cells := int64(1); cells <= 3; cells++ {
				march := marchOf(first, second)
				for _, f := range append(faultsWant(cells), impl.MemFault{}) {
					got, want := impl.RunMarch(march, cells, f), failWant(march, cells, f)
					if got != want {
						t.Fatalf("%v over %d cells with %v: %v, want %v", march, cells, f, got, want)
					}
					failed, passed = failed+int(bit(got.Fail)), passed+int(bit(!got.Fail))
				}
			}
		}
	}
	if failed < 1000 || passed < 1000 {
		t.Errorf("%d marches fail, %d pass", failed, passed)
	}
}

// Marches that go wrong far behind tell so; each kind of fault is found, and missed, often enough.
func TestSomeRunsOfMarches(t *testing.T) {
	chance := rand.New(rand.NewSource(282))
	found, missed := map[int64]int{}, map[int64]int{}
	for i := range 12000 {
		cells := 1 + chance.Int63n(12)
		march := someMarch(chance, 1+chance.Intn(12), numbersOf(0, 0, 40)[i%3])
		f := someMemFault(chance, cells)
		got := impl.RunMarch(march, cells, f)
		checkMarched(t, "some", march, cells, f, got)
		found[f.Kind] += int(bit(got.Fail))
		missed[f.Kind] += int(bit(!got.Fail))
	}
	for kind := range int64(6) {
		if found[kind]+int(100*bit(kind == 0)) < 100 || missed[kind] < 100 {
			t.Errorf("found are %v, missed are %v", found, missed)
		}
	}
}

// A memory without a fault fails only where a read is wrong by the writes ahead of it to the same cell.
func TestMemoryWithoutAFault(t *testing.T) {
	chance := rand.New(rand.NewSource(283))
	wrong := 0
	for i := range 3000 {
		cells := 1 + chance.Int63n(12)
		march := someMarch(chance, 1+chance.Intn(12), numbersOf(0, 9)[i%2])
		want := passes()
		last := make([]int64, cells)
		for number, s := range stepsWant(march, cells) {
			if s.op >= 2 {
				last[s.cell] = s.op - 2
			} else if s.op != last[s.cell] && !want.Fail {
				want = failsAt(int64(number), s.cell)
			}
		}
		checkMarched(t, "without a fault", march, cells, impl.MemFault{}, want)
		wrong += int(bit(want.Fail))
		if i%2 == 0 && want.Fail {
			t.Fatalf("%v should not be wrong", march)
		}
	}
	if wrong < 500 {
		t.Errorf("%d are wrong", wrong)
	}
}

// What goes on behind a march turns nothing of what it told.
func TestMarchesThatGoOn(t *testing.T) {
	chance := rand.New(rand.NewSource(284))
	for range 3000 {
		cells := 1 + chance.Int63n(12)
		march, f := someMarch(chance, 2+chance.Intn(11), 60), someMemFault(chance, cells)
		begin := march[:1+chance.Intn(len(march)-1)]
		part, whole := impl.RunMarch(begin, cells, f), impl.RunMarch(march, cells, f)
		later := whole.Fail && whole.Step >= int64(len(stepsWant(begin, cells)))
		if part.Fail && whole != part || !part.Fail && whole.Fail && !later {
			t.Fatalf("%v over %d cells with %v: first %v, then %v", march, cells, f, part, whole)
		}
	}
}
