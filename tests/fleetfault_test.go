package tests

import (
	"math/rand"
	"testing"

	"loop.example/g00057/impl"
)

// fleetCase is a fleet and its fault.
type fleetCase struct {
	name  string
	fleet impl.Fleet
	code  int64
}

func fleetListCases() []fleetCase {
	two := numbers(0, 1)
	return []fleetCase{
		{"nothing", impl.Fleet{}, impl.ErrRange},
		{"no vehicles", fleet(1), impl.OK},
		{"empty lists", impl.Fleet{Zones: 4, At: []int64{}, To: []int64{}}, impl.OK},
		{"plain", plainFleet(), impl.OK},
		{"Zones of -1", fleet(-1), impl.ErrRange},
		{"Zones of 0", fleet(0), impl.ErrRange},
		{"Zones of 1", fleet(1, 0, 0), impl.OK},
		{"MaxZones", fleet(30, 29, 0), impl.OK},
		{"one more", fleet(31, 29, 0), impl.ErrRange},
		{"the least Zones", fleet(leastInt, 0, 0), impl.ErrRange},
		{"the greatest Zones", fleet(greatestInt, 0, 0), impl.ErrRange},
		{"To is shorter", impl.Fleet{Zones: 4, At: two, To: two[:1]}, impl.ErrForm},
		{"To is longer", impl.Fleet{Zones: 4, At: two[:1], To: two}, impl.ErrForm},
		{"no To", impl.Fleet{Zones: 4, At: two}, impl.ErrForm},
		{"no At", impl.Fleet{Zones: 4, To: two}, impl.ErrForm},
		{"one vehicle fewer than zones", fleet(3, 0, 0, 2, 2), impl.OK},
		{"as many vehicles as zones", fleet(3, 0, 0, 2, 2, 1, 1), impl.OK},
		{"one vehicle more", fleet(3, 0, 0, 2, 2, 1, 1, 0, 0), impl.ErrMany},
		{"as many vehicles as MaxZones", fullFleet(30, 0), impl.OK},
		{"one more of MaxZones", fleet(30, longer(numbers(0, 0), 62)...), impl.ErrMany},
		{"far too many", fleet(30, longer(numbers(0, 0), 20000)...), impl.ErrMany},
		{"two in one zone", fleet(1, 0, 0, 0, 0), impl.ErrMany},
	}
}

func fleetZoneCases() []fleetCase {
	return []fleetCase{
		{"At of -1", fleet(4, -1, 0), impl.ErrRange},
		{"At of 0", fleet(4, 0, 0), impl.OK},
		{"At of Zones - 1", fleet(4, 3, 0), impl.OK},
		{"At of Zones", fleet(4, 4, 0), impl.ErrRange},
		{"To of -1", fleet(4, 0, -1), impl.ErrRange},
		{"To of Zones - 1", fleet(4, 0, 3), impl.OK},
		{"To of Zones", fleet(4, 0, 4), impl.ErrRange},
		{"the last At of Zones", fleet(4, 0, 0, 1, 1, 4, 2), impl.ErrRange},
		{"the last To of Zones", fleet(4, 0, 0, 1, 1, 3, 4), impl.ErrRange},
		{"At of 29 on a lesser ring", fleet(29, 29, 0), impl.ErrRange},
		{"two At are the same", fleet(4, 1, 0, 1, 2), impl.ErrTaken},
		{"the first and the last At are the same", fleet(4, 1, 0, 2, 2, 1, 3), impl.ErrTaken},
		{"the last two are the same", fleet(4, 1, 0, 3, 2, 3, 3), impl.ErrTaken},
		{"two To are the same", fleet(4, 1, 2, 0, 2), impl.OK},
		{"all To are the same", fleet(4, 1, 2, 0, 2, 2, 2, 3, 2), impl.OK},
		{"At of one is To of the other", fleet(4, 1, 2, 2, 1), impl.OK},
		{"two are the same, and one is beyond behind them", fleet(4, 1, 0, 1, 2, 4, 0), impl.ErrRange},
		{"two are the same, and one To is beyond behind them", fleet(4, 1, 0, 1, 2, 2, -1), impl.ErrRange},
		{"two are the same, and beyond", fleet(4, 4, 0, 4, 0), impl.ErrRange},
	}
}

func TestFleetFaultByHand(t *testing.T) {
	for _, cases := range [][]fleetCase{fleetListCases(), fleetZoneCases()} {
		for _, c := range cases {
			checkFleetFault(t, c.name, c.fleet, c.code)
		}
	}
}

// The faults stand in the order in which they are told; one of them with one behind it is told as the first.
func TestOrderOfFleetFaults(t *testing.T) {
	beyond := func(f *impl.Fleet) { f.At[0] = 40 }
	beyondTo := func(f *impl.Fleet) { f.To[2] = -1 }
	taken := func(f *impl.Fleet) { f.At[2] = f.At[1] }
	many := func(f *impl.Fleet) {
		f.At, f.To = append(f.At, longer(numbers(0), 30)...), append(f.To, longer(numbers(0), 30)...)
	}
	spoils := []struct {
		code  int64
		spoil func(f *impl.Fleet)
	}{
		{impl.ErrRange, func(f *impl.Fleet) { f.Zones = 0 }},
		{impl.ErrRange, func(f *impl.Fleet) { f.Zones = 31 }},
		{impl.ErrForm, func(f *impl.Fleet) { f.To = append(f.To, 1) }},
		{impl.ErrForm, func(f *impl.Fleet) { f.At = append(f.At, longer(numbers(1), 40)...) }},
		{impl.ErrMany, many},
		{impl.ErrRange, beyond},
		{impl.ErrRange, beyondTo},
		{impl.ErrTaken, taken},
	}
	for i, first := range spoils {
		f := copyFleet(plainFleet())
		first.spoil(&f)
		checkFleetFault(t, "one fault", f, first.code)
		for _, second := range spoils[i+1:] {
			both := copyFleet(f)
			second.spoil(&both)
			checkFleetFault(t, "two faults", both, first.code)
		}
	}
}

func TestFleetFaultAtEveryEnd(t *testing.T) {
	for _, n := range fleetEnds() {
		checkFleetFault(t, "Zones", fleet(n), impl.ErrRange*bit(n < 1 || n > 30))
		for _, zones := range numbers(1, 6, 30) {
			beyond := impl.ErrRange * bit(n < 0 || n >= zones)
			checkFleetFault(t, "At", fleet(zones, n, 0), beyond)
			checkFleetFault(t, "To", fleet(zones, 0, n), beyond)
		}
	}
}

func TestSomeFleetFaults(t *testing.T) {
	chance := rand.New(rand.NewSource(229))
	met := map[int64]int{}
	for range 3000 {
		right := someFleet(chance, 4)
		checkFleetFault(t, "right", right, impl.OK)
		wrong := spoiledFleet(chance, right)
		code := fleetFaultWant(wrong)
		checkFleetFault(t, "spoiled", wrong, code)
		met[code]++
	}
	for _, code := range numbers(impl.OK, impl.ErrForm, impl.ErrMany, impl.ErrRange, impl.ErrTaken) {
		if met[code] < 50 {
			t.Errorf("the codes are %v", met)
		}
	}
}
