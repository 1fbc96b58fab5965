package tests

import (
	"math/rand"
	"testing"

	"loop.example/g00057/impl"
)

type assistCase struct {
	name               string
	list               []impl.Line
	length, gap, width int64
	want               impl.LinesResult
}

func checkAssists(t *testing.T, cases []assistCase) {
	t.Helper()
	for _, c := range cases {
		checkLines(t, c.name, impl.AssistOf(c.list, c.length, c.gap, c.width), c.want)
		checkLines(t, c.name+", plainly", assistWant(c.list, c.length, c.gap, c.width), c.want)
	}
}

func TestAssistByHand(t *testing.T) {
	checkAssists(t, []assistCase{
		{"no lines", nil, 60, 1, 1, linesTold()},
		{"one line", linesAt(20, 21), 60, 1, 1, linesTold(20, 21)},
		{"one line over all cells", linesAt(0, 60), 60, 1, 1, linesTold(0, 60)},
		{"a room of six", linesAt(0, 2, 8, 9), 9, 5, 1, linesTold(0, 2, 4, 5, 8, 9)},
		{"a room of gap", linesAt(0, 2, 7, 9), 9, 5, 1, linesTold(0, 2, 4, 5, 7, 9)},
		{"a room of one below gap", linesAt(0, 2, 6, 9), 9, 5, 1, linesTold(0, 2, 6, 9)},
		{"a room of one above gap", linesAt(1, 2, 6, 9), 9, 3, 1, linesTold(1, 2, 3, 4, 6, 9)},
		{"a room of width and 2", linesAt(0, 1, 6, 7), 9, 1, 3, linesTold(0, 1, 2, 5, 6, 7)},
		{"a room of width and 1", linesAt(0, 1, 5, 6), 9, 1, 3, linesTold(0, 1, 5, 6)},
		{"a room of width", linesAt(0, 1, 4, 6), 9, 1, 3, linesTold(0, 1, 4, 6)},
		{"width and 2, but not gap", linesAt(0, 1, 6, 7), 9, 6, 3, linesTold(0, 1, 6, 7)},
		{"gap, but not width and 2", linesAt(0, 1, 5, 7), 9, 4, 3, linesTold(0, 1, 5, 7)},
		{"gap is width and 2", linesAt(0, 1, 6, 7), 9, 5, 3, linesTold(0, 1, 2, 5, 6, 7)},
		{"the rest is even", linesAt(0, 1, 8, 9), 9, 1, 3, linesTold(0, 1, 3, 6, 8, 9)},
		{"the rest is odd", linesAt(0, 1, 7, 9), 9, 1, 3, linesTold(0, 1, 2, 5, 7, 9)},
		{"one cell of three", linesAt(0, 1, 4, 5), 5, 1, 1, linesTold(0, 1, 2, 3, 4, 5)},
		{"one cell of two", linesAt(0, 1, 3, 4), 5, 1, 1, linesTold(0, 1, 3, 4)},
		{"one cell of one", linesAt(0, 1, 2, 3), 5, 1, 1, linesTold(0, 1, 2, 3)},
		{"none ahead of the first and behind the last", linesAt(20, 21, 22, 23), 60, 1, 1, linesTold(20, 21, 22, 23)},
		{"one of two rooms", linesAt(0, 1, 3, 4, 9, 10), 20, 5, 1, linesTold(0, 1, 3, 4, 6, 7, 9, 10)},
		{"the other of two rooms", linesAt(0, 1, 6, 7, 9, 10), 20, 5, 1, linesTold(0, 1, 3, 4, 6, 7, 9, 10)},
		{"both rooms", linesAt(0, 1, 6, 7, 13, 14), 20, 5, 2, linesTold(0, 1, 2, 4, 6, 7, 9, 11, 13, 14)},
		{"the widest", linesAt(0, 1, 59, 60), 60, 1, 56, linesTold(0, 1, 2, 58, 59, 60)},
		{"a cell too wide", linesAt(0, 1, 59, 60), 60, 1, 57, linesTold(0, 1, 59, 60)},
		{"the greatest gap", linesAt(0, 1, 59, 60), 60, 58, 1, linesTold(0, 1, 29, 30, 59, 60)},
		{"a cell less than gap", linesAt(0, 1, 59, 60), 60, 59, 1, linesTold(0, 1, 59, 60)},
	})
}

func TestAssistBounds(t *testing.T) {
	wide := linesAt(0, 1, 9, 10)
	checkAssists(t, []assistCase{
		{"gap 0", wide, 10, 0, 1, linesCode(impl.ErrRange)},
		{"gap 1", wide, 10, 1, 1, linesTold(0, 1, 4, 5, 9, 10)},
		{"gap 60", wide, 10, 60, 1, linesTold(0, 1, 9, 10)},
		{"gap 61", wide, 10, 61, 1, linesCode(impl.ErrRange)},
		{"gap -1", wide, 10, -1, 1, linesCode(impl.ErrRange)},
		{"width 0", wide, 10, 1, 0, linesCode(impl.ErrRange)},
		{"width 1", wide, 10, 1, 1, linesTold(0, 1, 4, 5, 9, 10)},
		{"width 60", wide, 10, 1, 60, linesTold(0, 1, 9, 10)},
		{"width 61", wide, 10, 1, 61, linesCode(impl.ErrRange)},
		{"width -1", wide, 10, 1, -1, linesCode(impl.ErrRange)},
		{"both 60", wide, 60, 60, 60, linesTold(0, 1, 9, 10)},
		{"both 61", wide, 60, 61, 61, linesCode(impl.ErrRange)},
		{"no lines, gap 0", nil, 10, 0, 1, linesCode(impl.ErrRange)},
		{"no lines, width 61", nil, 10, 1, 61, linesCode(impl.ErrRange)},
	})
	for _, n := range correctEnds() {
		for _, other := range numbers(-1, 0, 1, 7, 60, 61) {
			checkLines(t, "gap", impl.AssistOf(wide, 10, n, other), assistWant(wide, 10, n, other))
			checkLines(t, "width", impl.AssistOf(wide, 10, other, n), assistWant(wide, 10, other, n))
		}
	}
}

func TestAssistFaults(t *testing.T) {
	tight := append(teeth(11, 0), line(25, 26))
	checkAssists(t, []assistCase{
		{"length 0", nil, 0, 1, 1, linesCode(impl.ErrForm)},
		{"length 61", nil, 61, 1, 1, linesCode(impl.ErrForm)},
		{"a line beyond", linesAt(0, 9), 8, 1, 1, linesCode(impl.ErrRange)},
		{"lines that touch", linesAt(0, 3, 3, 4), 8, 1, 1, linesCode(impl.ErrForm)},
		{"thirteen lines", teeth(13, 0), 60, 1, 1, linesCode(impl.ErrMany)},
		{"length, gap", nil, 0, 0, 1, linesCode(impl.ErrForm)},
		{"lines that touch, width", linesAt(0, 3, 3, 4), 8, 1, 61, linesCode(impl.ErrForm)},
		{"thirteen lines, gap", teeth(13, 0), 60, 61, 1, linesCode(impl.ErrMany)},
		{"gap, and one line too many", tight, 60, 0, 1, linesCode(impl.ErrRange)},
		{"width, and one line too many", tight, 60, 1, 0, linesCode(impl.ErrRange)},
	})
}

func TestAssistCounts(t *testing.T) {
	six := linesAt(0, 1, 4, 5, 8, 9, 12, 13, 16, 17, 20, 21)
	checkAssists(t, []assistCase{
		{"twelve, and no room", teeth(12, 0), 60, 1, 1, impl.LinesResult{Lines: teeth(12, 0)}},
		{"twelve, and one room", append(teeth(11, 0), line(25, 26)), 60, 1, 1, linesCode(impl.ErrMany)},
		{"twelve, and a room too narrow", append(teeth(11, 0), line(25, 26)), 60, 1, 3, impl.LinesResult{Lines: append(teeth(11, 0), line(25, 26))}},
		{"twelve, and the first room", append(linesAt(0, 1), teeth(11, 4)...), 60, 1, 1, linesCode(impl.ErrMany)},
		{"eleven, and one room", append(teeth(10, 0), line(22, 23)), 60, 1, 1, impl.LinesResult{Lines: append(teeth(10, 0), line(20, 21), line(22, 23))}},
		{"six, and five rooms", six, 60, 1, 1, impl.LinesResult{Lines: teeth(11, 0)}},
		{"seven, and five rooms", append(six[:6:6], line(22, 23)), 60, 1, 1, impl.LinesResult{Lines: append(teeth(11, 0), line(22, 23))}},
		{"seven, and six rooms", append(six[:6:6], line(24, 25)), 60, 1, 1, linesCode(impl.ErrMany)},
	})
}

// Every set of cells of a short length, every gap and width that differ there.
func TestAssistsOfAllShortLines(t *testing.T) {
	added := 0
	for length := int64(1); length <= 9; length++ {
		for bits := range 1 << length {
			list := bitLines(bits, length)
			for gap := range int64(10) {
				for width := range int64(9) {
					got := impl.AssistOf(list, length, gap, width)
					checkLines(t, brief(list), got, assistWant(list, length, gap, width))
					if len(got.Lines) > len(list) {
						added++
					}
				}
			}
		}
	}
	if added < 1000 {
		t.Errorf("lines were added in %d asks", added)
	}
}

// Whatever is added has its width, and leaves the lines that were there as they are and without a fault.
func TestAssistsOfLongLines(t *testing.T) {
	chance := rand.New(rand.NewSource(85))
	met := map[int64]int{}
	for range 3000 {
		length := 20 + chance.Int63n(41)
		list := someLines(chance, length, 4+chance.Intn(9))
		gap, width := 1+chance.Int63n(6), 1+chance.Int63n(4)
		got := impl.AssistOf(list, length, gap, width)
		checkLines(t, brief(list), got, assistWant(list, length, gap, width))
		met[got.Code]++
		if got.Code != impl.OK {
			continue
		}
		if impl.LinesFault(got.Lines, length) != impl.OK {
			t.Fatalf("%s with gap %d and width %d: %s", brief(list), gap, width, brief(got))
		}
		next := 0
		for _, l := range got.Lines {
			if next < len(list) && l == list[next] {
				next++
			} else if l.To-l.From != width {
				t.Fatalf("%s with gap %d and width %d: %s", brief(list), gap, width, brief(got))
			}
		}
		if next != len(list) {
			t.Fatalf("%s with gap %d and width %d loses one: %s", brief(list), gap, width, brief(got))
		}
	}
	if met[impl.OK] < 500 || met[impl.ErrMany] < 20 {
		t.Errorf("the codes are %v", met)
	}
}
