package tests

import (
	"math/rand"
	"slices"
	"testing"

	"loop.example/g00057/impl"
)

// marchCase is a march and its fault.
type marchCase struct {
	name  string
	march []impl.Element
	code  int64
}

func manyElements(n int) []impl.Element {
	return longer(marchOf(upward(2)), n)
}

func marchCases() []marchCase {
	return []marchCase{
		{"no elements", nil, impl.ErrForm},
		{"an empty list", marchOf(), impl.ErrForm},
		{"the example", exampleMarch(), impl.OK},
		{"one element", manyElements(1), impl.OK},
		{"one fewer than MaxElements", manyElements(11), impl.OK},
		{"MaxElements", manyElements(12), impl.OK},
		{"one more", manyElements(13), impl.ErrMany},
		{"one more, all of them empty", make([]impl.Element, 13), impl.ErrMany},
		{"far too many", make([]impl.Element, 10000), impl.ErrMany},
		{"no Ops", marchOf(upward()), impl.ErrForm},
		{"no Ops, downward", marchOf(downward()), impl.ErrForm},
		{"the Ops are an empty list", marchOf(impl.Element{Ops: []int64{}}), impl.ErrForm},
		{"7 Ops", marchOf(upward(2, 0, 3, 1, 2, 0, 0)), impl.OK},
		{"8 Ops", marchOf(upward(2, 0, 3, 1, 2, 0, 0, 3)), impl.OK},
		{"9 Ops", marchOf(upward(2, 0, 3, 1, 2, 0, 0, 3, 3)), impl.ErrMany},
		{"9 Ops, downward", marchOf(downward(2, 0, 3, 1, 2, 0, 0, 3, 3)), impl.ErrMany},
		{"far too many Ops", marchOf(upward(make([]int64, 10000)...)), impl.ErrMany},
		{"each Op", marchOf(upward(0), upward(1), upward(2), upward(3)), impl.OK},
		{"an Op of -1", marchOf(upward(-1)), impl.ErrForm},
		{"an Op of 4", marchOf(upward(4)), impl.ErrForm},
		{"the last Op is none", marchOf(upward(0, 0, 0, 0, 0, 0, 0, 4)), impl.ErrForm},
		{"the last element has no Ops", append(manyElements(11), upward()), impl.ErrForm},
		{"the last element has 9 Ops", append(manyElements(11), upward(make([]int64, 9)...)), impl.ErrMany},
		{"the last Op of the last element", append(manyElements(11), downward(0, 1, 2, 3, -1)), impl.ErrForm},
		{"a march that is wrong", marchOf(upward(1)), impl.OK},
		{"as long as may be", longMarch(), impl.OK},

		{"9 Ops, one of which is none", marchOf(upward(4, 0, 0, 0, 0, 0, 0, 0, 0)), impl.ErrMany},
		{"9 Ops, then no Ops", marchOf(upward(make([]int64, 9)...), upward()), impl.ErrMany},
		{"no Ops, then 9 Ops", marchOf(upward(), upward(make([]int64, 9)...)), impl.ErrForm},
		{"an Op that is none, then 9 Ops", marchOf(upward(4), upward(make([]int64, 9)...)), impl.ErrForm},
		{"9 Ops, then an Op that is none", marchOf(upward(make([]int64, 9)...), upward(4)), impl.ErrMany},
		{"MaxElements, the last one of 9 Ops, the first one none", append(marchOf(upward(-1)), append(manyElements(10), upward(make([]int64, 9)...))...), impl.ErrForm},
		{"too many, the first one of no Ops", append(marchOf(upward()), manyElements(12)...), impl.ErrMany},
		{"too many, the first one of 9 Ops", append(marchOf(upward(make([]int64, 9)...)), manyElements(12)...), impl.ErrMany},
	}
}

func TestMarchFaultByHand(t *testing.T) {
	for _, c := range marchCases() {
		checkMarchFault(t, c.name, c.march, c.code)
	}
}

// Every number as an Op, wherever it stands.
func TestMarchFaultAtEveryEnd(t *testing.T) {
	for _, n := range probeEnds() {
		for _, at := range numbersOf(0, 1, 2, 5) {
			march := longMarch()[:4]
			march[at/2].Ops[at] = n
			checkMarchFault(t, "an Op at an end", march, impl.ErrForm*bit(n < 0 || n > 3))
		}
	}
}

// Marches of every length, one element of which has every number of Ops.
func TestMarchFaultOfEachLength(t *testing.T) {
	for n := range 15 {
		for ops := range 11 {
			for at := range n {
				march := manyElements(n)
				march[at] = downward(make([]int64, ops)...)
				code := int64(impl.OK)
				switch {
				case n > 12 || ops > 8:
					code = impl.ErrMany
				case ops == 0:
					code = impl.ErrForm
				}
				checkMarchFault(t, "one of another length", march, code)
			}
		}
	}
}

func TestSomeMarchFaults(t *testing.T) {
	chance, ends := rand.New(rand.NewSource(281)), probeEnds()
	met := map[int64]int{}
	for range 1500 {
		march := someMarch(chance, 1+chance.Intn(12), 5)
		checkMarchFault(t, "right", march, impl.OK)
		for range 1 + chance.Intn(2) {
			e := &march[chance.Intn(len(march))]
			switch chance.Intn(5) {
			case 0:
				march = longer(march, 11+chance.Intn(4))
			case 1:
				e.Ops = longer(append(slices.Clone(e.Ops), 1), chance.Intn(11))
			case 2:
				e.Ops = nil
			default:
				e.Ops = append(slices.Clone(e.Ops), ends[chance.Intn(len(ends))])
			}
		}
		code := marchFaultWant(march)
		checkMarchFault(t, "spoiled", march, code)
		met[code]++
	}
	for _, code := range numbers(impl.OK, impl.ErrForm, impl.ErrMany) {
		if met[code] < 50 {
			t.Errorf("the codes are %v", met)
		}
	}
}
