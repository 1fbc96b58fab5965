package tests

import (
	"bytes"
	"math/rand"
	"slices"
	"testing"

	"loop.example/g00057/impl"
)

const mostThick = 100000

// pile has films from below upward, told by their materials and thicknesses in turn.
func pile(pairs ...int64) []impl.Film {
	var films []impl.Film
	for i := 0; i < len(pairs); i += 2 {
		films = append(films, impl.Film{Mat: pairs[i], Thick: pairs[i+1]})
	}
	return films
}

func section(columns ...[]impl.Film) impl.Section {
	return impl.Section{Columns: columns}
}

func sectionOf(columns ...[]impl.Film) impl.SectionResult {
	return impl.SectionResult{Section: section(columns...)}
}

func sectionCode(code int64) impl.SectionResult {
	return impl.SectionResult{Code: code}
}

func etchCode(code int64) impl.EtchResult {
	return impl.EtchResult{Code: code}
}

// etchedTo tells what is gone by material and thickness in turn.
func etchedTo(s impl.Section, pairs ...int64) impl.EtchResult {
	gone := make([]int64, 12)
	for _, film := range pile(pairs...) {
		gone[film.Mat-1] = film.Thick
	}
	return impl.EtchResult{Section: s, Gone: gone}
}

func copySection(s impl.Section) impl.Section {
	var out impl.Section
	for _, films := range s.Columns {
		out.Columns = append(out.Columns, slices.Clone(films))
	}
	return out
}

// everyFilm has n films of two materials in turn, each as thick.
func everyFilm(n int, a int64, b int64, thick int64) []impl.Film {
	return longer(pile(a, thick, b, thick), n)
}

func sameSection(a impl.Section, b impl.Section) bool {
	return slices.EqualFunc(a.Columns, b.Columns, slices.Equal[[]impl.Film])
}

func sameGrown(a impl.SectionResult, b impl.SectionResult) bool {
	return a.Code == b.Code && sameSection(a.Section, b.Section)
}

func sameEtched(a impl.EtchResult, b impl.EtchResult) bool {
	return a.Code == b.Code && sameSection(a.Section, b.Section) && slices.Equal(a.Gone, b.Gone)
}

func checkGrown(t *testing.T, what string, got impl.SectionResult, want impl.SectionResult) {
	t.Helper()
	if !sameGrown(got, want) {
		t.Errorf("%s: %s, want %s", what, brief(got), brief(want))
	}
}

func checkEtched(t *testing.T, what string, got impl.EtchResult, want impl.EtchResult) {
	t.Helper()
	if !sameEtched(got, want) {
		t.Errorf("%s: %s, want %s", what, brief(got), brief(want))
	}
}

func columnFaultWant(films []impl.Film) int64 {
	var codes faults
	codes.wrong(impl.ErrMany, len(films) >= 25)
	sum := int64(0)
	for i, film := range films {
		codes.wrong(impl.ErrForm, film.Mat <= 0, film.Mat >= 13, i > 0 && films[max(i-1, 0)].Mat == film.Mat)
		codes.wrong(impl.ErrRange, film.Thick <= 0, film.Thick > mostThick)
		sum += clampedTo(film.Thick, 0, mostThick+1)
	}
	codes.wrong(impl.ErrRange, sum > mostThick)
	return codes.first()
}

func sectionFaultWant(s impl.Section) int64 {
	var codes faults
	codes.wrong(impl.ErrForm, len(s.Columns) == 0)
	codes.wrong(impl.ErrMany, len(s.Columns) >= 17)
	for _, films := range s.Columns {
		codes.found(columnFaultWant(films))
	}
	return codes.first()
}

// grains are the materials of a column, unit by unit of its thickness, from below upward.
type grains []byte

// grainsOf wants columns without a fault.
func grainsOf(s impl.Section) []grains {
	var columns []grains
	for _, films := range s.Columns {
		var column grains
		for _, film := range films {
			column = column.with(film.Mat, film.Thick)
		}
		columns = append(columns, column)
	}
	return columns
}

func (g grains) with(mat int64, n int64) grains {
	return append(g, bytes.Repeat([]byte{byte(mat)}, int(n))...)
}

// top is the material on top and of how many units it is; 0 and 0 of nothing.
func (g grains) top() (int64, int64) {
	if len(g) == 0 {
		return 0, 0
	}
	mat := g[len(g)-1]
	below := bytes.TrimRight(g, string([]byte{mat}))
	return int64(mat), int64(len(g) - len(below))
}

// films have no two alike upon each other, since each is as thick as can be.
func (g grains) films() []impl.Film {
	var films []impl.Film
	for len(g) > 0 {
		mat, n := g.top()
		films = append(films, impl.Film{Mat: mat, Thick: n})
		g = g[:len(g)-int(n)]
	}
	slices.Reverse(films)
	return films
}

func (g grains) less(n int64) grains {
	return g[:len(g)-int(n)]
}

func sectionOfGrains(columns []grains) impl.Section {
	var s impl.Section
	for _, column := range columns {
		s.Columns = append(s.Columns, column.films())
	}
	return s
}

// putTogether is what comes out of grown columns: they may be too much.
func putTogether(columns []grains) impl.SectionResult {
	s := sectionOfGrains(columns)
	if code := sectionFaultWant(s); code != impl.OK {
		return sectionCode(code)
	}
	return impl.SectionResult{Section: s}
}

func countGrains(columns []grains) []int64 {
	counts := make([]int64, 12)
	for _, column := range columns {
		for mat := range counts {
			counts[mat] += int64(bytes.Count(column, []byte{byte(mat + 1)}))
		}
	}
	return counts
}

// takenFrom is what comes out of columns that are less; what is gone is counted by what is missing.
func takenFrom(before []grains, after []grains) impl.EtchResult {
	gone := countGrains(before)
	for i, n := range countGrains(after) {
		gone[i] -= n
	}
	return impl.EtchResult{Section: sectionOfGrains(after), Gone: gone}
}

func topWant(s impl.Section, column int64) impl.ShapeInt {
	if code := sectionFaultWant(s); code != impl.OK {
		return valueCode(code)
	}
	if column < 0 || column >= int64(len(s.Columns)) {
		return valueCode(impl.ErrNone)
	}
	return value(int64(len(grainsOf(s)[column])))
}

func matterWant(s impl.Section) impl.IntsResult {
	if code := sectionFaultWant(s); code != impl.OK {
		return intsCode(code)
	}
	return ints(countGrains(grainsOf(s))...)
}

func lookWant(s impl.Section, column int64, height int64) impl.ShapeInt {
	top := topWant(s, column)
	if top.Code != impl.OK {
		return top
	}
	if height < 0 || height >= top.Value {
		return value(0)
	}
	return value(int64(grainsOf(s)[column][height]))
}

func depositWant(s impl.Section, mat int64, thick int64) impl.SectionResult {
	var codes faults
	codes.found(sectionFaultWant(s))
	codes.wrong(impl.ErrForm, mat <= 0, mat >= 13)
	codes.wrong(impl.ErrRange, thick <= 0, thick > mostThick)
	if code := codes.first(); code != impl.OK {
		return sectionCode(code)
	}
	columns := grainsOf(s)
	for i := range columns {
		columns[i] = columns[i].with(mat, thick)
	}
	return putTogether(columns)
}

func fillToWant(s impl.Section, mat int64, level int64) impl.SectionResult {
	var codes faults
	codes.found(sectionFaultWant(s))
	codes.wrong(impl.ErrForm, mat <= 0, mat >= 13)
	codes.wrong(impl.ErrRange, level < 0, level > mostThick)
	if code := codes.first(); code != impl.OK {
		return sectionCode(code)
	}
	columns := grainsOf(s)
	for i := range columns {
		for int64(len(columns[i])) < level {
			columns[i] = append(columns[i], byte(mat))
		}
	}
	return putTogether(columns)
}

// etchedWant goes on by one unit of time after the other: each takes from one film only.
func etchedWant(column grains, rates []int64, time int64) grains {
	for time > 0 && len(column) > 0 {
		mat, n := column.top()
		if rates[mat-1] == 0 {
			break
		}
		for ; n > 0 && time > 0; time-- {
			taken := min(n, rates[mat-1])
			column, n = column.less(taken), n-taken
		}
	}
	return column
}

func etchWant(s impl.Section, rates []int64, time int64, mask []bool) impl.EtchResult {
	var codes faults
	codes.found(sectionFaultWant(s))
	codes.wrong(impl.ErrForm, len(rates) != 12, len(mask) != len(s.Columns))
	for _, rate := range rates {
		codes.wrong(impl.ErrRange, rate < 0, rate > 1000)
	}
	codes.wrong(impl.ErrRange, time < 0, time > mostThick)
	if code := codes.first(); code != impl.OK {
		return etchCode(code)
	}
	before, after := grainsOf(s), grainsOf(s)
	for i := range after {
		if !mask[i] {
			after[i] = etchedWant(after[i], rates, time)
		}
	}
	return takenFrom(before, after)
}

func polishWant(s impl.Section, level int64) impl.EtchResult {
	var codes faults
	codes.found(sectionFaultWant(s))
	codes.wrong(impl.ErrRange, level < 0, level > mostThick)
	if code := codes.first(); code != impl.OK {
		return etchCode(code)
	}
	before, after := grainsOf(s), grainsOf(s)
	for i := range after {
		after[i] = after[i][:min(len(after[i]), int(level))]
	}
	return takenFrom(before, after)
}

func stripMatWant(s impl.Section, mat int64) impl.EtchResult {
	var codes faults
	codes.found(sectionFaultWant(s))
	codes.wrong(impl.ErrForm, mat <= 0, mat >= 13)
	if code := codes.first(); code != impl.OK {
		return etchCode(code)
	}
	before, after := grainsOf(s), grainsOf(s)
	for i := range after {
		after[i] = bytes.TrimRight(after[i], string([]byte{byte(mat)}))
	}
	return takenFrom(before, after)
}

// oxidisedWant takes the oxide off, and puts it on again behind what has become of the silicon.
func oxidisedWant(column grains, amount int64) grains {
	mat, oxide := column.top()
	if mat != 2 {
		oxide = 0
	}
	bare := column.less(oxide)
	mat, silicon := bare.top()
	if mat != 1 {
		return column
	}
	eaten := amount * 11 / 25
	if eaten > silicon {
		eaten, amount = silicon, silicon*25/11
	}
	return slices.Clone(bare.less(eaten)).with(2, oxide+amount)
}

func oxidiseWant(s impl.Section, amount int64) impl.SectionResult {
	var codes faults
	codes.found(sectionFaultWant(s))
	codes.wrong(impl.ErrRange, amount <= 0, amount > mostThick)
	if code := codes.first(); code != impl.OK {
		return sectionCode(code)
	}
	columns := grainsOf(s)
	for i := range columns {
		columns[i] = oxidisedWant(columns[i], amount)
	}
	return putTogether(columns)
}

// somePile has no fault: n films of the first so many materials, each of at most so much.
func somePile(chance *rand.Rand, n int, mats int64, thick int64) []impl.Film {
	var films []impl.Film
	below := int64(0)
	for range n {
		mat := 1 + chance.Int63n(mats)
		if mat == below {
			mat = mat%mats + 1
		}
		films = append(films, impl.Film{Mat: mat, Thick: 1 + chance.Int63n(thick)})
		below = mat
	}
	return films
}

// someSection has no fault, as long as thick is at most 4000; few materials make more meetings of two alike.
func someSection(chance *rand.Rand, columns int, films int, thick int64) impl.Section {
	var s impl.Section
	for range columns {
		s.Columns = append(s.Columns, somePile(chance, chance.Intn(films+1), numbers(2, 3, 12)[chance.Intn(3)], thick))
	}
	return s
}

// someEtch has rates and a mask that fit so many columns; some materials are not etched at all.
func someEtch(chance *rand.Rand, columns int, most int64) ([]int64, []bool) {
	rates, mask := make([]int64, 12), make([]bool, columns)
	for i := range rates {
		rates[i] = chance.Int63n(most+1) * min(chance.Int63n(9), 1)
	}
	for i := range mask {
		mask[i] = chance.Intn(4) == 0
	}
	return rates, mask
}

// stackEnds are the bounds of chapter 12 and what lies beside them.
func stackEnds() []int64 {
	list := numbers(0, 1, 2, 3, 11, 12, 13, 15, 16, 17, 23, 24, 25, 999, 1000, 1001, mostThick-1, mostThick, mostThick+1, 1<<32, greatestInt-1, greatestInt)
	for _, n := range list {
		list = append(list, -n)
	}
	return append(list, leastInt)
}

// allPiles are all columns of at most n films of the materials 1 to mats, each of one of these thicknesses.
func allPiles(n int, mats int64, thicks ...int64) [][]impl.Film {
	piles, last := [][]impl.Film{nil}, [][]impl.Film{nil}
	for range n {
		var next [][]impl.Film
		for _, films := range last {
			for mat := range mats {
				for _, thick := range thicks {
					if len(films) == 0 || films[len(films)-1].Mat != mat+1 {
						next = append(next, append(slices.Clone(films), impl.Film{Mat: mat + 1, Thick: thick}))
					}
				}
			}
		}
		piles, last = append(piles, next...), next
	}
	return piles
}
