package tests

import (
	"math/rand"
	"testing"

	"loop.example/g00057/impl"
)

func checkLoopFault(t *testing.T, what string, l impl.Loop, want int64) {
	t.Helper()
	if got := impl.LoopFault(l); got != want {
		t.Errorf("%s, %v: %d, want %d", what, l, got, want)
	}
	if got := loopFaultWant(l); got != want {
		t.Errorf("%s, %v, plainly: %d, want %d", what, l, got, want)
	}
}

// loopCase is a loop and its fault.
type loopCase struct {
	name string
	l    impl.Loop
	code int64
}

func loopCases() []loopCase {
	const most = mostCharted
	return []loopCase{
		{"a right one", loop(10, 1, 2, 0), impl.OK},
		{"the zero value", impl.Loop{}, impl.ErrForm},
		{"Num -1", loop(0, -1, 5, 0), impl.ErrForm},
		{"Num 0", loop(0, 0, 5, 0), impl.ErrForm},
		{"Num 1", loop(0, 1, 5, 0), impl.OK},
		{"Num one less than Den", loop(0, 4, 5, 0), impl.OK},
		{"Num at Den", loop(0, 5, 5, 0), impl.OK},
		{"Num one more", loop(0, 6, 5, 0), impl.ErrForm},
		{"Den -1", loop(0, 1, -1, 0), impl.ErrForm},
		{"Num and Den -1", loop(0, -1, -1, 0), impl.ErrForm},
		{"Den 0", loop(0, 1, 0, 0), impl.ErrForm},
		{"Num and Den 0", loop(0, 0, 0, 0), impl.ErrForm},
		{"Den 1", loop(0, 1, 1, 0), impl.OK},
		{"the greatest Den", loop(0, 1, 1000, 0), impl.OK},
		{"Num at the greatest Den", loop(0, 1000, 1000, 0), impl.OK},
		{"Num above the greatest Den", loop(0, 1001, 1000, 0), impl.ErrForm},
		{"Den one more", loop(0, 1, 1001, 0), impl.ErrForm},
		{"Num and Den one more", loop(0, 1001, 1001, 0), impl.ErrForm},
		{"not in lowest terms", loop(0, 500, 1000, 0), impl.OK},
		{"the least Target", loop(-most, 1, 2, 0), impl.OK},
		{"Target one below", loop(-most-1, 1, 2, 0), impl.ErrRange},
		{"the greatest Target", loop(most, 1, 2, 0), impl.OK},
		{"Target one above", loop(most+1, 1, 2, 0), impl.ErrRange},
		{"the least Start", loop(0, 1, 2, -most), impl.OK},
		{"Start one below", loop(0, 1, 2, -most-1), impl.ErrRange},
		{"the greatest Start", loop(0, 1, 2, most), impl.OK},
		{"Start one above", loop(0, 1, 2, most+1), impl.ErrRange},
		{"Num and Target", loop(most+1, 0, 2, 0), impl.ErrForm},
		{"Num and Start", loop(0, 3, 2, most+1), impl.ErrForm},
		{"Den and Target", loop(-most-1, 1, 1001, 0), impl.ErrForm},
		{"Den and Start", loop(0, 1, 0, -most-1), impl.ErrForm},
		{"Target and Start", loop(most+1, 1, 2, most+1), impl.ErrRange},
		{"all the least", loop(leastInt, leastInt, leastInt, leastInt), impl.ErrForm},
		{"all the greatest", loop(greatestInt, greatestInt, greatestInt, greatestInt), impl.ErrForm},
		{"Target and Start the least", loop(leastInt, 1, 2, leastInt), impl.ErrRange},
		{"Target and Start the greatest", loop(greatestInt, 1, 2, greatestInt), impl.ErrRange},
	}
}

func TestLoopFaultByHand(t *testing.T) {
	for _, c := range loopCases() {
		checkLoopFault(t, c.name, c.l, c.code)
	}
}

func TestLoopFaultAtEachBound(t *testing.T) {
	for _, n := range chartEnds() {
		for _, m := range chartEnds() {
			for _, l := range []impl.Loop{loop(n, 1, 2, m), loop(1, n, m, 1), loop(n, m, 1000, 1), loop(1, 1, n, m), loop(n, 1, m, 1)} {
				checkLoopFault(t, "two ends", l, loopFaultWant(l))
			}
		}
	}
}

// loopRunCase is what a loop does under some disturbances.
type loopRunCase struct {
	name    string
	l       impl.Loop
	disturb []int64
	want    impl.LoopResult
}

func TestRunLoopByHand(t *testing.T) {
	for _, c := range []loopRunCase{
		{"no disturbance", loop(10, 1, 2, 0), nil, loopRun(nil, nil)},
		{"an empty list", loop(10, 1, 2, 0), numbers(), loopRun(nil, nil)},
		{"the document's", loop(10, 1, 2, 0), numbers(0, 0, 0), loopRun(numbers(0, 5, 8), numbers(-10, -5, -2))},
		{"one disturbance", loop(10, 1, 2, 3), numbers(4), loopRun(numbers(3), numbers(-3))},
		{"at the target", loop(10, 1, 2, 10), numbers(0, 0, 0), loopRun(numbers(10, 10, 10), numbers(0, 0, 0))},
		{"all of the error", loop(10, 1, 1, 0), numbers(0, 0, 3, 3), loopRun(numbers(0, 10, 10, 7), numbers(-10, 0, 3, 0))},
		{"all of it, by 1000", loop(10, 1000, 1000, 0), numbers(0, 0, 3, 3), loopRun(numbers(0, 10, 10, 7), numbers(-10, 0, 3, 0))},
		{"a disturbance that stays", loop(0, 1, 2, 0), numbers(8, 8, 8, 8, 8), loopRun(numbers(0, -4, -6, -7, -8), numbers(8, 4, 2, 1, 0))},
		{"a disturbance that goes", loop(0, 1, 2, 0), numbers(8, 0, 0), loopRun(numbers(0, -4, -2), numbers(8, -4, -2))},

		{"a half above 0", loop(0, 1, 2, 0), numbers(1, 1), loopRun(numbers(0, -1), numbers(1, 0))},
		{"a half below 0", loop(0, 1, 2, 0), numbers(-1, -1), loopRun(numbers(0, 1), numbers(-1, 0))},
		{"one and a half above 0", loop(0, 1, 2, 0), numbers(3, 3), loopRun(numbers(0, -2), numbers(3, 1))},
		{"one and a half below 0", loop(0, 1, 2, 0), numbers(-3, -3), loopRun(numbers(0, 2), numbers(-3, -1))},
		{"two and a half above 0, the input above 0", loop(0, 1, 2, 5), numbers(0, 0), loopRun(numbers(5, 2), numbers(5, 2))},
		{"two and a half below 0, the input below 0", loop(0, 1, 2, -5), numbers(0, 0), loopRun(numbers(-5, -2), numbers(-5, -2))},
		{"two and a half above 0, the input far above", loop(100, 1, 2, 105), numbers(0, 0), loopRun(numbers(105, 102), numbers(5, 2))},
		{"two and a half below 0, the input far above", loop(100, 1, 2, 95), numbers(0, 0), loopRun(numbers(95, 98), numbers(-5, -2))},
		{"two and a half above 0, the input far below", loop(-100, 1, 2, -95), numbers(0, 0), loopRun(numbers(-95, -98), numbers(5, 2))},
		{"two and a half below 0, the input far below", loop(-100, 1, 2, -105), numbers(0, 0), loopRun(numbers(-105, -102), numbers(-5, -2))},
		{"halves of four parts", loop(0, 3, 4, 0), numbers(2, -2, 0), loopRun(numbers(0, -2, 1), numbers(2, -4, 1))},
		{"less than a half above 0", loop(0, 1, 3, 0), numbers(1, 1), loopRun(numbers(0, 0), numbers(1, 1))},
		{"less than a half below 0", loop(0, 1, 3, 0), numbers(-1, -1), loopRun(numbers(0, 0), numbers(-1, -1))},
		{"more than a half above 0", loop(0, 2, 3, 0), numbers(1, 1), loopRun(numbers(0, -1), numbers(1, 0))},
		{"more than a half below 0", loop(0, 2, 3, 0), numbers(-1, -1), loopRun(numbers(0, 1), numbers(-1, 0))},
		{"just below a half", loop(0, 1, 1000, 0), numbers(499, 499), loopRun(numbers(0, 0), numbers(499, 499))},
		{"just a half", loop(0, 1, 1000, 0), numbers(500, 500), loopRun(numbers(0, -1), numbers(500, 499))},
		{"just below a half, below 0", loop(0, 1, 1000, 0), numbers(-499, -499), loopRun(numbers(0, 0), numbers(-499, -499))},
		{"just a half, below 0", loop(0, 1, 1000, 0), numbers(-500, -500), loopRun(numbers(0, 1), numbers(-500, -499))},

		{"as far as there may be", loop(-mostCharted, 1, 1, mostCharted), numbers(mostCharted, mostCharted, -mostCharted),
			loopRun(numbers(mostCharted, -2*mostCharted, -2*mostCharted), numbers(3*mostCharted, 0, -2*mostCharted))},
		{"as far as there may be, a small share", loop(mostCharted, 1, 1000, -mostCharted), numbers(-mostCharted, -mostCharted),
			loopRun(numbers(-mostCharted, -997000), numbers(-3*mostCharted, -2997000))},
	} {
		checkToldRun(t, c.name, impl.RunLoop(c.l, c.disturb), c.want)
		checkToldRun(t, c.name+", plainly", runWant(c.l, c.disturb), c.want)
	}
}

func TestRunLoopFaults(t *testing.T) {
	for _, l := range loopCases() {
		for _, d := range chartCases() {
			code := l.code
			if code == impl.OK {
				code = d.code
			}
			got := impl.RunLoop(l.l, d.list)
			if got.Code != code || code != impl.OK && len(got.Inputs)+len(got.Errors) > 0 {
				t.Errorf("%s, %s: %s, want %d", l.name, d.name, brief(got), code)
			}
			if code == impl.OK && (len(got.Inputs) != len(d.list) || len(got.Errors) != len(d.list)) {
				t.Errorf("%s, %s: %s", l.name, d.name, brief(got))
			}
		}
	}
}

// Every error from -40 to 40, with every share of small parts: what is taken from the input is the nearest whole number.
func TestRunLoopRounds(t *testing.T) {
	for den := int64(1); den <= 12; den++ {
		for num := int64(1); num <= den; num++ {
			for off := int64(-40); off <= 40; off++ {
				for _, target := range numbers(0, 7, -7) {
					l := loop(target, num, den, target)
					got := impl.RunLoop(l, numbers(off, 0))
					checkToldRun(t, "a share", got, runWant(l, numbers(off, 0)))
					taken := target - got.Inputs[1]
					rest := 2 * (off*num - taken*den)
					lesser := rest == den && off > 0 || rest == -den && off < 0
					if rest < -den || rest > den || lesser {
						t.Errorf("%d by %d of %d: %d", num, den, off, taken)
					}
				}
			}
		}
	}
}

// Some loops and disturbances, and the beginnings of these.
func TestRunLoopSome(t *testing.T) {
	chance := rand.New(rand.NewSource(177))
	for i := range 600 {
		most, den := numbers(5, 900, mostCharted)[i%3], 1+chance.Int63n(numbers(4, 1000)[i%2])
		l := loop(chance.Int63n(2*most+1)-most, 1+chance.Int63n(den), den, chance.Int63n(2*most+1)-most)
		disturb := someRuns(chance, chance.Intn(201), most)
		whole := impl.RunLoop(l, disturb)
		checkToldRun(t, "some", whole, runWant(l, disturb))
		for places := 0; places <= len(disturb); places += 1 + i%9 {
			checkToldRun(t, "a beginning", impl.RunLoop(l, disturb[:places]), loopRun(whole.Inputs[:places], whole.Errors[:places]))
		}
	}
}

// What is upside down all round stays so: no sign is rounded another way.
func TestRunLoopUpsideDown(t *testing.T) {
	chance := rand.New(rand.NewSource(178))
	for i := range 600 {
		den := 1 + chance.Int63n(numbers(4, 1000)[i%2])
		l := loop(chance.Int63n(200)-100, 1+chance.Int63n(den), den, chance.Int63n(200)-100)
		disturb := someRuns(chance, chance.Intn(201), 100)
		got, other := impl.RunLoop(l, disturb), impl.RunLoop(loop(-l.Target, l.Num, l.Den, -l.Start), opposites(disturb))
		checkToldRun(t, "upside down", other, loopRun(opposites(got.Inputs), opposites(got.Errors)))
	}
}
