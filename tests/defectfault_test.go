package tests

import (
	"math/rand"
	"slices"
	"testing"

	"loop.example/g00057/impl"
)

func checkDefectsFault(t *testing.T, what string, list []impl.Defect, want int64) {
	t.Helper()
	if got := impl.DefectsFault(list); got != want {
		t.Errorf("%s, %s: %d, want %d", what, brief(list), got, want)
	}
	if got := defectsFaultWant(list); got != want {
		t.Errorf("%s, %s, plainly: %d, want %d", what, brief(list), got, want)
	}
}

func checkClassesFault(t *testing.T, what string, list []impl.Class, want int64) {
	t.Helper()
	if got := impl.ClassesFault(list); got != want {
		t.Errorf("%s, %s: %d, want %d", what, brief(list), got, want)
	}
	if got := classesFaultWant(list); got != want {
		t.Errorf("%s, %s, plainly: %d, want %d", what, brief(list), got, want)
	}
}

// defectCase is a list of defects and its fault.
type defectCase struct {
	name string
	list []impl.Defect
	code int64
}

func countDefectCases() []defectCase {
	one, wrong := defectsAt(3, 4), defects(defect(-1, -1, 0, -1))
	return []defectCase{
		{"no list", nil, impl.OK},
		{"no defect", defects(), impl.OK},
		{"one", one, impl.OK},
		{"one less than MaxDefects", longer(one, 59), impl.OK},
		{"MaxDefects", longer(one, 60), impl.OK},
		{"one more", longer(one, 61), impl.ErrMany},
		{"far too many", longer(one, 100000), impl.ErrMany},
		{"one more, wrong ones", longer(wrong, 61), impl.ErrMany},
		{"one more, the first wrong", append(slices.Clone(wrong), longer(one, 60)...), impl.ErrMany},
		{"one more, the kind of the first wrong", append(defects(defect(0, 0, 1, 10)), longer(one, 60)...), impl.ErrMany},
		{"MaxDefects, the last wrong", append(longer(one, 59), wrong...), impl.ErrRange},
		{"MaxDefects, the kind of the last wrong", append(longer(one, 59), defect(0, 0, 1, 10)), impl.ErrForm},
		{"all at the least bounds", longer(defects(defect(0, 0, 1, 0)), 60), impl.OK},
		{"all at the greatest bounds", longer(defects(defect(10000, 10000, 1000, 9)), 60), impl.OK},
	}
}

// twoDefectFaults have the one first that is told first: one defect is asked all ahead of the next.
func twoDefectFaults() []defectCase {
	good, far, wild := defect(0, 0, 1, 0), defect(10001, 0, 1, 0), defect(0, 0, 1, 10)
	return []defectCase{
		{"X and Kind of one", defects(defect(-1, 0, 1, 10)), impl.ErrRange},
		{"Y and Kind of one", defects(defect(0, 10001, 1, -1)), impl.ErrRange},
		{"Size and Kind of one", defects(defect(0, 0, 0, -1)), impl.ErrRange},
		{"all of one", defects(defect(-1, -1, 0, -1)), impl.ErrRange},
		{"a place, then a kind", defects(far, wild), impl.ErrRange},
		{"a kind, then a place", defects(wild, far), impl.ErrForm},
		{"a kind, then a size", defects(wild, defect(0, 0, 1001, 0)), impl.ErrForm},
		{"good ones, a kind, then a place", defects(good, good, wild, good, far), impl.ErrForm},
		{"good ones, a place, then a kind", defects(good, far, good, wild), impl.ErrRange},
		{"a kind, then all", defects(wild, defect(-1, -1, 0, -1)), impl.ErrForm},
		{"all at the least", defects(defect(leastInt, leastInt, leastInt, leastInt)), impl.ErrRange},
		{"all at the greatest", defects(defect(greatestInt, greatestInt, greatestInt, greatestInt)), impl.ErrRange},
		{"a kind at the least, places at the greatest behind it", defects(defect(0, 0, 1, leastInt), defect(greatestInt, greatestInt, 1, 0)), impl.ErrForm},
		{"MaxDefects at the least", longer(defects(defect(leastInt, leastInt, leastInt, leastInt)), 60), impl.ErrRange},
		{"one more at the greatest", longer(defects(defect(greatestInt, greatestInt, greatestInt, greatestInt)), 61), impl.ErrMany},
	}
}

func defectCases() []defectCase {
	return append(countDefectCases(), twoDefectFaults()...)
}

func TestDefectsFaultByHand(t *testing.T) {
	for _, c := range defectCases() {
		checkDefectsFault(t, c.name, c.list, c.code)
	}
}

// Each number of each defect, at its bounds and beyond.
func TestDefectsFaultAtEachBound(t *testing.T) {
	bounds := [][3]int64{{0, 10000, impl.ErrRange}, {0, 10000, impl.ErrRange}, {1, 1000, impl.ErrRange}, {0, 9, impl.ErrForm}}
	for at := range 3 {
		for field, bound := range bounds {
			for _, n := range defectEnds() {
				list := defects(defect(0, 1, 2, 3), defect(10000, 9999, 1000, 9), defect(5, 6, 7, 8))
				d := &list[at]
				*[]*int64{&d.X, &d.Y, &d.Size, &d.Kind}[field] = n
				checkDefectsFault(t, "an end", list, bound[2]*bit(n < bound[0] || n > bound[1]))
			}
		}
	}
}

// Up to three ends stand anywhere in lists that may themselves be too long.
func TestFaultsOfSpoiledDefects(t *testing.T) {
	chance, ends, met := rand.New(rand.NewSource(160)), defectEnds(), map[int64]int{}
	for range 10000 {
		list := someDefects(chance, 1+chance.Intn(63), 10001, 1000)
		for range chance.Intn(4) {
			d := &list[chance.Intn(len(list))]
			*[]*int64{&d.X, &d.Y, &d.Size, &d.Kind, &d.Kind, &d.Kind}[chance.Intn(6)] = ends[chance.Intn(len(ends))]
		}
		want := defectsFaultWant(list)
		checkDefectsFault(t, "spoiled", list, want)
		met[want]++
	}
	if min(met[impl.OK], met[impl.ErrForm], met[impl.ErrMany], met[impl.ErrRange]) < 100 {
		t.Errorf("the codes are %v", met)
	}
}

// classCase is a list of classes and its fault.
type classCase struct {
	name string
	list []impl.Class
	code int64
}

func classCases() []classCase {
	half := ratio(1, 2)
	good, wrong := class(0, 1, 2, 3, half), class(-2, 2, 1, 0, ratio(2, 1))
	one := func(c impl.Class) []impl.Class { return classes(c) }
	return []classCase{
		{"no list", nil, impl.OK},
		{"no class", classes(), impl.OK},
		{"one", one(good), impl.OK},
		{"the same twice", classes(good, good), impl.OK},
		{"one less than MaxClasses", longer(one(good), 19), impl.OK},
		{"MaxClasses", longer(one(good), 20), impl.OK},
		{"one more", longer(one(good), 21), impl.ErrMany},
		{"far too many", longer(one(good), 100000), impl.ErrMany},
		{"one more, wrong ones", longer(one(wrong), 21), impl.ErrMany},
		{"one more, the first wrong", append(one(wrong), longer(one(good), 20)...), impl.ErrMany},
		{"MaxClasses, the last wrong", append(longer(one(good), 19), wrong), impl.ErrForm},
		{"the first wrong", classes(wrong, good), impl.ErrForm},
		{"the zero value", one(impl.Class{}), impl.ErrForm},

		{"any kind", one(class(-1, 1, 2, 3, half)), impl.OK},
		{"Kind below any", one(class(-2, 1, 2, 3, half)), impl.ErrForm},
		{"the last Kind", one(class(9, 1, 2, 3, half)), impl.OK},
		{"Kind beyond", one(class(10, 1, 2, 3, half)), impl.ErrForm},
		{"Low below High", one(class(0, 5, 6, 3, half)), impl.OK},
		{"Low at High", one(class(0, 6, 6, 3, half)), impl.OK},
		{"Low above High", one(class(0, 7, 6, 3, half)), impl.ErrForm},
		{"Low and High of no size", one(class(0, -9, -8, 3, half)), impl.OK},
		{"Low and High beyond all sizes", one(class(0, 5000, 6000, 3, half)), impl.OK},
		{"all that there are", one(class(0, leastInt, greatestInt, 3, half)), impl.OK},
		{"none of all", one(class(0, greatestInt, leastInt, 3, half)), impl.ErrForm},
		{"both the least", one(class(0, leastInt, leastInt, 3, half)), impl.OK},
		{"both the greatest", one(class(0, greatestInt, greatestInt, 3, half)), impl.OK},
		{"no Name", one(class(0, 1, 2, 0, half)), impl.ErrForm},
		{"the first Name", one(class(0, 1, 2, 1, half)), impl.OK},
		{"the last Name", one(class(0, 1, 2, 99, half)), impl.OK},
		{"Name beyond", one(class(0, 1, 2, 100, half)), impl.ErrForm},
		{"two of one Name", classes(class(0, 1, 2, 7, half), class(1, 1, 2, 7, asFrac(0))), impl.OK},
		{"all at the least", one(class(leastInt, leastInt, leastInt, leastInt, ratio(leastInt, leastInt))), impl.ErrForm},
		{"all at the greatest", one(class(greatestInt, greatestInt, greatestInt, greatestInt, ratio(greatestInt, greatestInt))), impl.ErrForm},
		{"one more at the least", longer(one(class(leastInt, leastInt, leastInt, leastInt, ratio(leastInt, leastInt))), 21), impl.ErrMany},
	}
}

func TestClassesFaultByHand(t *testing.T) {
	for _, c := range classCases() {
		checkClassesFault(t, c.name, c.list, c.code)
	}
}

// Each number of each class, at its bounds and beyond.
func TestClassesFaultAtEachBound(t *testing.T) {
	for at := range 3 {
		for field := range 6 {
			for _, n := range defectEnds() {
				list := classes(class(-1, 1, 2, 3, ratio(1, 2)), class(9, 9, 9, 9, ratio(2, 3)), class(0, 0, 1000, 99, asFrac(1)))
				c := &list[at]
				*[]*int64{&c.Kind, &c.Low, &c.High, &c.Name, &c.Kill.Num, &c.Kill.Den}[field] = n
				checkClassesFault(t, "an end", list, classesFaultWant(list))
			}
		}
	}
}

// A Kill is a right fraction from 0 to 1, in whatever class it stands.
func TestClassesFaultOfKills(t *testing.T) {
	in := func(kill impl.Frac, at int) []impl.Class {
		list := longer(killsAll(asFrac(0)), 4)
		list[at].Kill = kill
		return list
	}
	for at := range 4 {
		for _, f := range append(rightFracs(), ratio(-1, 2), ratio(-1, impl.MaxNum), ratio(3, 2), ratio(impl.MaxNum, impl.MaxNum-1)) {
			checkClassesFault(t, "a right one", in(f, at), impl.ErrForm*bit(f.Num < 0 || f.Num > f.Den))
		}
		for _, f := range wrongFracs() {
			checkClassesFault(t, "a wrong one", in(f, at), impl.ErrForm)
		}
		for _, f := range yieldKills() {
			checkClassesFault(t, "from 0 to 1", in(f, at), impl.OK)
		}
	}
}
