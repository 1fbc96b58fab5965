package tests

import (
	"math/rand"
	"testing"

	"loop.example/g00057/impl"
)

func checkClass(t *testing.T, what string, d impl.Defect, list []impl.Class, want impl.ShapeInt) {
	t.Helper()
	if got := impl.ClassOf(d, list); got != want {
		t.Errorf("%s, %v, %s: %v, want %v", what, d, brief(list), got, want)
	}
	if got := classWant(d, list); got != want {
		t.Errorf("%s, %v, %s, plainly: %v, want %v", what, d, brief(list), got, want)
	}
}

func checkClassBook(t *testing.T, what string, list []impl.Defect, sorts []impl.Class, want impl.IntsResult) {
	t.Helper()
	checkInts(t, what, impl.ClassBook(list, sorts), want)
	checkInts(t, what+", plainly", bookWant(list, sorts), want)
}

func TestClassOfByHand(t *testing.T) {
	none := asFrac(0)
	third := classes(class(3, 10, 20, 7, none))
	every := classes(class(-1, 10, 20, 7, none))
	for _, c := range []struct {
		name string
		d    impl.Defect
		list []impl.Class
		want impl.ShapeInt
	}{
		{"no list", defect(0, 0, 1, 0), nil, value(0)},
		{"no class", defect(0, 0, 1, 0), classes(), value(0)},
		{"its Kind", defect(0, 0, 15, 3), third, value(7)},
		{"another Kind", defect(0, 0, 15, 4), third, value(0)},
		{"the Kind 0", defect(0, 0, 15, 0), third, value(0)},
		{"any Kind", defect(0, 0, 15, 4), every, value(7)},
		{"any Kind, the first", defect(0, 0, 15, 0), every, value(7)},
		{"at Low", defect(0, 0, 10, 3), third, value(7)},
		{"below Low", defect(0, 0, 9, 3), third, value(0)},
		{"at High", defect(0, 0, 20, 3), third, value(7)},
		{"above High", defect(0, 0, 21, 3), third, value(0)},
		{"any, at Low", defect(0, 0, 10, 5), every, value(7)},
		{"any, below Low", defect(0, 0, 9, 5), every, value(0)},
		{"any, at High", defect(0, 0, 20, 5), every, value(7)},
		{"any, above High", defect(0, 0, 21, 5), every, value(0)},
		{"just one Size", defect(0, 0, 5, 1), classes(class(1, 5, 5, 99, none)), value(99)},
		{"all Sizes", defect(0, 0, 5, 1), classes(class(1, leastInt, greatestInt, 1, none)), value(1)},

		{"the first of several", defect(0, 0, 5, 1), classes(class(1, 1, 9, 4, none), class(1, 5, 5, 6, none), class(-1, 1, 9, 8, none)), value(4)},
		{"any ahead of its Kind", defect(0, 0, 5, 1), classes(class(-1, 1, 9, 8, none), class(1, 1, 9, 4, none)), value(8)},
		{"its Kind ahead of any", defect(0, 0, 5, 1), classes(class(1, 1, 9, 4, none), class(-1, 1, 9, 8, none)), value(4)},
		{"any between two of its Kind", defect(0, 0, 5, 1), classes(class(1, 1, 2, 4, none), class(-1, 1, 9, 8, none), class(1, 1, 9, 6, none)), value(8)},
		{"its Kind between two of any", defect(0, 0, 5, 1), classes(class(-1, 1, 2, 4, none), class(1, 1, 9, 8, none), class(-1, 1, 9, 6, none)), value(8)},
		{"the last of all", defect(0, 0, 5, 1), append(longer(classes(class(2, 1, 9, 4, none), class(-1, 6, 9, 5, none)), 19), class(1, 5, 5, 6, none)), value(6)},
		{"the name of a later one, too", defect(0, 0, 5, 1), classes(class(2, 1, 9, 4, none), class(1, 1, 9, 4, none)), value(4)},

		{"a Kind below 0, any asked", defect(0, 0, 15, -1), every, value(7)},
		{"a Kind below 0, its own asked", defect(0, 0, 15, -1), third, value(0)},
		{"a Kind below 0, both", defect(0, 0, 15, -1), append(third, every...), value(7)},
		{"a Kind far below 0", defect(0, 0, 15, leastInt), append(third, class(-1, 0, 99, 8, none)), value(8)},
		{"a Kind beyond 9", defect(0, 0, 15, 10), append(third, class(-1, 0, 99, 8, none)), value(8)},
		{"the greatest Kind", defect(0, 0, 15, greatestInt), third, value(0)},
		{"a Size of 0", defect(0, 0, 0, 3), classes(class(3, 0, 0, 5, none)), value(5)},
		{"a Size below 0", defect(0, 0, -9, 3), classes(class(3, -10, -1, 5, none)), value(5)},
		{"the least Size", defect(0, 0, leastInt, 3), classes(class(3, leastInt, -1, 5, none)), value(5)},
		{"the greatest Size", defect(0, 0, greatestInt, 3), classes(class(3, 1, greatestInt, 5, none)), value(5)},
		{"the greatest Size, one too great", defect(0, 0, greatestInt, 3), classes(class(3, 1, greatestInt-1, 5, none)), value(0)},
		{"places beyond all", defect(leastInt, greatestInt, 15, 3), third, value(7)},
	} {
		checkClass(t, c.name, c.d, c.list, c.want)
	}
}

// A fault of the classes is told, whatever the defect is, and whether or not a class ahead of it fits.
func TestClassOfFaults(t *testing.T) {
	for _, c := range classCases() {
		for _, d := range defects(defect(0, 0, 1, 0), defect(-1, -1, 0, -1), impl.Defect{}, defect(leastInt, leastInt, leastInt, leastInt), defect(0, 0, 1001, 9)) {
			want := valueCode(c.code)
			if c.code == impl.OK {
				want = classWant(d, c.list)
			}
			checkClass(t, c.name, d, c.list, want)
			if c.code == impl.ErrForm && len(c.list) < 20 {
				checkClass(t, "behind one that fits: "+c.name, d, append(killsAll(asFrac(0)), c.list...), valueCode(impl.ErrForm))
			}
		}
	}
}

// Every end in each number of a defect, and at the ends of a class.
func TestClassOfAtEachBound(t *testing.T) {
	for _, n := range defectEnds() {
		for _, m := range defectEnds() {
			for _, d := range defects(defect(n, m, 5, 3), defect(0, 0, n, m), defect(0, 0, n, 3)) {
				for _, list := range [][]impl.Class{classes(class(3, 1, 9, 7, asFrac(1))), classes(class(3, min(n, m), max(n, m), 7, asFrac(0)), class(-1, m, m, 8, asFrac(0)))} {
					checkClass(t, "an end", d, list, classWant(d, list))
				}
			}
		}
	}
}

// All pairs and triples of small classes, and all small defects.
func TestClassOfAllSmall(t *testing.T) {
	var all []impl.Class
	for kind := int64(-1); kind <= 1; kind++ {
		for low := range int64(3) {
			for high := low; high < 3; high++ {
				all = append(all, class(kind, low, high, int64(len(all)+1), asFrac(0)))
			}
		}
	}
	for i := range len(all) * len(all) * len(all) {
		list := classes(all[i%len(all)], all[i/len(all)%len(all)], all[i/len(all)/len(all)])
		for k := range int64(16) {
			d := defect(0, 0, k%4, k/4-1)
			if got, want := impl.ClassOf(d, list), classWant(d, list); got != want {
				t.Fatalf("%v, %v: %v, want %v", d, list, got, want)
			}
		}
	}
}

func TestClassBookByHand(t *testing.T) {
	half := ratio(1, 2)
	three := classes(class(1, 1, 5, 7, half), class(-1, 3, 9, 7, half), class(2, 1, 1000, 8, half))
	for _, c := range []struct {
		name  string
		list  []impl.Defect
		sorts []impl.Class
		want  impl.IntsResult
	}{
		{"nothing", nil, nil, ints(0)},
		{"nothing, empty", defects(), classes(), ints(0)},
		{"no class", defectsOf(1, 2, 3), nil, ints(3)},
		{"no class, MaxDefects", longer(defectsOf(1), 60), nil, ints(60)},
		{"no defect", nil, three, ints(0, 0, 0, 0)},
		{"no defect, MaxClasses", nil, longer(three, 20), ints(make([]int64, 21)...)},
		{"the first that fits", defects(defect(0, 0, 4, 1), defect(0, 0, 4, 2), defect(0, 0, 2, 2), defect(0, 0, 2, 0)), three, ints(1, 1, 1, 1)},
		{"two of one", defects(defect(0, 0, 1, 1), defect(9, 9, 5, 1), defect(0, 0, 6, 1)), three, ints(2, 1, 0, 0)},
		{"none fits", defects(defect(0, 0, 10, 0), defect(0, 0, 10, 1), defect(0, 0, 1, 9)), three, ints(0, 0, 0, 3)},
		{"a class behind one like it gets none", defectsOf(1, 1, 1), longer(killsAll(half), 20), ints(append(numbers(3), make([]int64, 20)...)...)},
		{"each its own, the last first", defectsOf(3, 2, 1, 2, 3, 3, 4), killsBySize(half, half, half), ints(1, 2, 3, 1)},
		{"MaxDefects, MaxClasses", longer(defectsOf(counting(20)[1:]...), 60), killsBySize(longer(fracs(half), 20)...), ints(append(longer(numbers(4), 3), append(longer(numbers(3), 16), 0, 0)...)...)},
	} {
		checkClassBook(t, c.name, c.list, c.sorts, c.want)
	}
}

// A fault of the defects is told ahead of one of the classes.
func TestClassBookFaults(t *testing.T) {
	for _, d := range defectCases() {
		for _, c := range classCases() {
			want := impl.IntsResult{Code: d.code}
			if d.code == impl.OK {
				want.Code = c.code
			}
			if want.Code == impl.OK {
				want = bookWant(d.list, c.list)
			}
			checkClassBook(t, d.name+", "+c.name, d.list, c.list, want)
		}
	}
	checkClassBook(t, "a kind, then too many classes", defects(defect(0, 0, 1, 10)), longer(killsAll(asFrac(0)), 21), intsCode(impl.ErrForm))
	checkClassBook(t, "a place, then a wrong class", defectsAt(-1, 0), classes(impl.Class{}), intsCode(impl.ErrRange))
	checkClassBook(t, "too many, then a wrong class", longer(defectsOf(1), 61), classes(impl.Class{}), intsCode(impl.ErrMany))
	checkClassBook(t, "a wrong class alone", defectsOf(1), classes(impl.Class{}), intsCode(impl.ErrForm))
	checkClassBook(t, "too many classes alone", defectsOf(1), longer(killsAll(asFrac(0)), 21), intsCode(impl.ErrMany))
}

// Every defect is in the book just once, in the place of the class that is told of it.
func TestEveryDefectIsInTheBookOnce(t *testing.T) {
	chance := rand.New(rand.NewSource(164))
	for i := range 3000 {
		list := someDefects(chance, chance.Intn(61), 100, numbers(6, 40)[i%2])
		sorts := someClasses(chance, chance.Intn(21), numbers(6, 40)[i%2], 9)
		for at := range sorts {
			sorts[at].Name = int64(at + 1)
		}
		want := bookWant(list, sorts)
		checkClassBook(t, "some", list, sorts, want)
		book := impl.ClassBook(list, sorts).List
		sum, told := int64(0), make([]int64, len(sorts)+1)
		for _, n := range book {
			sum += n
		}
		for _, d := range list {
			told[(int(impl.ClassOf(d, sorts).Value)+len(sorts))%(len(sorts)+1)]++
		}
		if sum != int64(len(list)) {
			t.Errorf("%d of %d defects are in the book", sum, len(list))
		}
		checkInts(t, "one by one", ints(told...), ints(book...))
	}
}
