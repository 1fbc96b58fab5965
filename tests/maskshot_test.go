package tests

import (
	"math"
	"math/rand"
	"slices"
	"testing"

	"loop.example/g00057/impl"
)

func TestShotsFault(t *testing.T) {
	dot := box(0, 0, 1, 1)
	right := shot(dot, 5)
	empty, far := box(0, 0, 0, 1), box(0, 0, 1, 10001)
	cases := []struct {
		name string
		list []impl.Shot
		want int64
	}{
		{"none", nil, impl.OK},
		{"one", shots(right), impl.OK},
		{"as many as may be", longer(shots(right), 40), impl.OK},
		{"one more", longer(shots(right), 41), impl.ErrMany},
		{"one more, with a fault first", longer(shots(shot(empty, -1)), 41), impl.ErrMany},
		{"far too many", longer(shots(shot(far, 1)), 3000), impl.ErrMany},
		{"no dose", shots(shot(dot, 0)), impl.OK},
		{"a dose below 0", shots(shot(dot, -1)), impl.ErrRange},
		{"the greatest dose", shots(shot(dot, 1000)), impl.OK},
		{"one dose more", shots(shot(dot, 1001)), impl.ErrRange},
		{"the least number", shots(shot(dot, math.MinInt64)), impl.ErrRange},
		{"the greatest number", shots(shot(dot, math.MaxInt64)), impl.ErrRange},
		{"an empty box", shots(shot(empty, 1)), impl.ErrForm},
		{"not below upward", shots(shot(box(0, 2, 1, 1), 1)), impl.ErrForm},
		{"a box beyond", shots(shot(far, 1)), impl.ErrRange},
		{"a box beyond to the left", shots(shot(box(-10001, 0, 1, 1), 1)), impl.ErrRange},
		{"a box beyond below", shots(shot(box(0, -10001, 1, 1), 1)), impl.ErrRange},
		{"a box beyond to the right", shots(shot(box(0, 0, 10001, 1), 1)), impl.ErrRange},
		{"all places", shots(shot(box(-10000, -10000, 10000, 10000), 1)), impl.OK},
		{"two faults in one shot", shots(shot(empty, 1001)), impl.ErrForm},
		{"an empty box beyond", shots(shot(box(10001, 0, 10001, 1), 1)), impl.ErrForm},
		{"two shots with faults", shots(right, shot(dot, 1001), shot(empty, 1)), impl.ErrRange},
		{"two shots with faults, turned round", shots(right, shot(empty, 1), shot(dot, 1001)), impl.ErrForm},
		{"a dose, then a box", shots(shot(dot, -1), shot(empty, 1)), impl.ErrRange},
		{"the last one is wrong", append(longer(shots(right), 39), shot(empty, 1)), impl.ErrForm},
		{"the last dose is wrong", append(longer(shots(right), 39), shot(dot, 1001)), impl.ErrRange},
	}
	for _, c := range cases {
		if got := impl.ShotsFault(c.list); got != c.want || shotsFaultWant(c.list) != c.want {
			t.Errorf("%s: %d, want %d (and %d)", c.name, got, c.want, shotsFaultWant(c.list))
		}
		checkFaultOfShots(t, c.name, c.list, c.want)
	}
}

// checkFaultOfShots asks all calls that take shots.
func checkFaultOfShots(t *testing.T, what string, list []impl.Shot, want int64) {
	t.Helper()
	frame := box(0, 0, 2, 2)
	w := writer(frame, 1, 1, 1)
	got := numbers(impl.DoseMap(list, frame).Code, impl.SpreadMap(list, w).Code, impl.DoseError(list, w, 5).Code, impl.EvenDoses(list, w, 5, 1).Code)
	if !slices.Equal(got, numbers(want, want, want, want)) {
		t.Errorf("%s: the codes of the maps, the error and the evening are %v, want %d", what, got, want)
	}
	if checked := impl.CheckShots(list, nil); want != impl.OK && checked != want {
		t.Errorf("%s, checked: %d, want %d", what, checked, want)
	}
}

func checkChecked(t *testing.T, what string, list []impl.Shot, s []impl.Box, want int64) {
	t.Helper()
	if got := impl.CheckShots(list, s); got != want {
		t.Errorf("%s, the shots %s of %s: %d, want %d", what, brief(list), brief(s), got, want)
	}
	if plain := checkShotsWant(list, s); plain != want {
		t.Errorf("%s, the shots %s of %s: plainly %d, want %d", what, brief(list), brief(s), plain, want)
	}
}

func TestCheckShots(t *testing.T) {
	s := boxes(box(0, 0, 4, 2), box(0, 2, 2, 4))
	whole := shotsOf(boxes(box(0, 0, 4, 2), box(0, 2, 2, 4)), 7)
	low, left, right := shot(box(0, 0, 2, 2), 1), shot(box(0, 2, 2, 4), 1), shot(box(2, 0, 4, 2), 1)
	over := shot(box(1, 1, 3, 2), 1)
	beyond := shot(box(2, 2, 3, 3), 1)
	faulty := faultyShapes()
	cases := []struct {
		name string
		list []impl.Shot
		s    []impl.Box
		want int64
	}{
		{"nothing", nil, nil, impl.OK},
		{"box by box", whole, s, impl.OK},
		{"in another order", shots(whole[1], whole[0]), s, impl.OK},
		{"cut otherwise", shots(shot(box(0, 0, 2, 4), 1), right), s, impl.OK},
		{"doses do not matter", shots(shot(box(0, 0, 2, 4), 0), shot(right.Box, 1000)), s, impl.OK},
		{"they touch, and at a corner", shots(right, left, low), s, impl.OK},
		{"one cell in common", shots(shot(box(0, 0, 3, 1), 1), shot(box(2, 0, 4, 1), 1), shot(box(0, 1, 4, 2), 1), left), s, impl.ErrTaken},
		{"one cell in common at a corner", shots(low, shot(box(1, 1, 4, 2), 1)), s, impl.ErrTaken},
		{"the same shot twice", append(slices.Clone(whole), whole[0]), s, impl.ErrTaken},
		{"one in another", append(slices.Clone(whole), over), s, impl.ErrTaken},
		{"the last two", shots(low, left, right, right), s, impl.ErrTaken},
		{"one reaches beyond", shots(low, left, shot(box(2, 0, 5, 2), 1)), s, impl.ErrRange},
		{"one is beyond wholly", append(slices.Clone(whole), beyond), s, impl.ErrRange},
		{"one is far off", append(slices.Clone(whole), shot(box(9999, -10000, 10000, -9999), 1)), s, impl.ErrRange},
		{"one left out", shots(low, right), s, impl.ErrNone},
		{"one cell left out", shots(low, left, shot(box(2, 0, 4, 1), 1), shot(box(2, 1, 3, 2), 1)), s, impl.ErrNone},
		{"no shots", nil, s, impl.ErrNone},
		{"no shape", whole, nil, impl.ErrRange},
		{"no shape, and twice", shots(low, low), nil, impl.ErrTaken},
		{"beyond, then taken", shots(beyond, whole[0], whole[1], over), s, impl.ErrTaken},
		{"missing, then taken", shots(low, low), s, impl.ErrTaken},
		{"missing, then beyond", shots(low, right, shot(box(-1, 0, 0, 1), 1)), s, impl.ErrRange},
		{"all three", shots(beyond, low, low), s, impl.ErrTaken},
		{"a shape that is not in the one form", shots(low, low), faulty[impl.ErrForm], impl.ErrForm},
		{"a shape with too many boxes", shots(low, low), faulty[impl.ErrMany], impl.ErrMany},
		{"a shape beyond", shots(low, low), faulty[impl.ErrRange], impl.ErrRange},
		{"a wrong shot, then a wrong shape", shots(shot(low.Box, 1001)), faulty[impl.ErrForm], impl.ErrRange},
		{"a wrong box, then a wrong shape", shots(shot(box(1, 1, 1, 1), 1)), faulty[impl.ErrRange], impl.ErrForm},
		{"too many shots, then a wrong shape", longer(shots(low), 41), faulty[impl.ErrForm], impl.ErrMany},
		{"all places, cut in two", shots(shot(box(-10000, -10000, 10000, 0), 1), shot(box(-10000, 0, 10000, 10000), 1)), boxes(box(-10000, -10000, 10000, 10000)), impl.OK},
		{"all places but one cell", shots(shot(box(-10000, -10000, 10000, 9999), 1), shot(box(-10000, 9999, 9999, 10000), 1)), boxes(box(-10000, -10000, 10000, 10000)), impl.ErrNone},
	}
	for _, c := range cases {
		checkChecked(t, c.name, c.list, c.s, c.want)
	}
}

// A shape of 40 boxes, each with its shot, and what is wrong with one of them only.
func TestCheckFortyShots(t *testing.T) {
	s := boxesApart(40, 0)
	list := shotsOf(s, 3)
	checkChecked(t, "forty", list, s, impl.OK)
	checkChecked(t, "a box more", list, append(slices.Clone(s), box(0, 80, 1, 81)), impl.ErrNone)
	for i := range list {
		wrong := slices.Clone(list)
		wrong[i].Box.X1 = 2
		checkChecked(t, "one too wide", wrong, s, impl.ErrRange)
		wrong[i].Box = s[(i+7)%40]
		checkChecked(t, "one lies on another", wrong, s, impl.ErrTaken)
		checkChecked(t, "one left out", slices.Delete(slices.Clone(list), i, i+1), s, impl.ErrNone)
	}
}

// A hundred and fifty boxes are more than shots can cover one by one, but not if some shots have many.
func TestFewShotsOfManyBoxes(t *testing.T) {
	rungs := formOfBoxes(ladder(75, 1, 0))
	bar := shots(shot(box(1, -1, 2, 149), 1))
	if len(rungs) != 150 {
		t.Fatalf("the ladder has %d boxes", len(rungs))
	}
	checkChecked(t, "the bar alone", bar, rungs, impl.ErrNone)
	checkChecked(t, "a bar too long", shots(shot(box(1, -1, 2, 150), 1)), rungs, impl.ErrRange)
	short := formOfBoxes(ladder(19, 0, 0))
	list := shots(shot(box(1, 0, 2, 37), 1))
	for i := range int64(19) {
		list = append(list, shot(box(0, 2*i, 1, 2*i+1), 1), shot(box(2, 2*i, 3, 2*i+1), 1))
	}
	checkChecked(t, "a bar and the ends of rungs", list, short, impl.OK)
	checkChecked(t, "without the first rung", list, short[1:], impl.ErrRange)
}

// Two shots each of all that lie in a frame of three by two cells, and each shape there.
func TestShotsOfSmallFrames(t *testing.T) {
	all := []impl.Box{}
	for x := int64(0); x < 3; x++ {
		for y := int64(0); y < 2; y++ {
			for x1 := x + 1; x1 <= 3; x1++ {
				for y1 := y + 1; y1 <= 2; y1++ {
					all = append(all, box(x, y, x1, y1))
				}
			}
		}
	}
	met := map[int64]int{}
	for bits := range 1 << 6 {
		s := formOfBoxes(unitBoxes(bits, 3, 6))
		for _, a := range all {
			for _, b := range all {
				list := shotsOf(boxes(a, b), 1)
				want := checkShotsWant(list, s)
				met[want]++
				if got := impl.CheckShots(list, s); got != want {
					t.Fatalf("%v of %v: %d, want %d", list, s, got, want)
				}
			}
		}
	}
	if min(met[impl.OK], met[impl.ErrTaken], met[impl.ErrRange], met[impl.ErrNone]) < 50 {
		t.Errorf("the codes are %v", met)
	}
}

// Pieces of a shape, with one moved, cut, doubled or left out now and then.
func TestShotsAgainstThePlainReckoning(t *testing.T) {
	chance := rand.New(rand.NewSource(66))
	met := map[int64]int{}
	for i, s := range someShapes(600, 7) {
		pieces := impl.Fracture(s, int64(2+i%4)).Boxes
		list := shotsOf(pieces[:min(len(pieces), 40)], chance.Int63n(1001))
		chance.Shuffle(len(list), func(a int, b int) { list[a], list[b] = list[b], list[a] })
		if len(list) > 0 {
			at := chance.Intn(len(list))
			switch i % 6 {
			case 1:
				list[at].Box.X1++
			case 2:
				list[at].Box.Y0--
			case 3:
				list = slices.Delete(list, at, at+1)
			case 4:
				list[at].Box.X0--
				list = slices.Delete(list, chance.Intn(len(list)), len(list))
			case 5:
				list[at].Dose = 1001 * chance.Int63n(2)
			}
		}
		want := checkShotsWant(list, s)
		met[want]++
		if got := impl.CheckShots(list, s); got != want {
			t.Fatalf("%s of %s: %d, want %d", brief(list), brief(s), got, want)
		}
	}
	if min(met[impl.OK], met[impl.ErrTaken], met[impl.ErrRange], met[impl.ErrNone]) < 20 {
		t.Errorf("the codes are %v", met)
	}
}
