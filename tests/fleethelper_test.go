package tests

import (
	"math/rand"
	"slices"
	"testing"

	"loop.example/g00057/impl"
)

// fleet takes two numbers for each vehicle: At and To.
func fleet(zones int64, pairs ...int64) impl.Fleet {
	f := impl.Fleet{Zones: zones}
	for pair := range slices.Chunk(pairs, 2) {
		f.At, f.To = append(f.At, pair[0]), append(f.To, pair[1])
	}
	return f
}

// plainFleet has no fault: the first pushes on the second, the third is behind a zone that is free.
func plainFleet() impl.Fleet {
	return fleet(6, 0, 3, 1, 1, 3, 5)
}

// fullFleet has a vehicle in each zone, which is to go so far on.
func fullFleet(zones int64, further int64) impl.Fleet {
	f := impl.Fleet{Zones: zones}
	for zone := range zones {
		f.At, f.To = append(f.At, zone), append(f.To, (zone+further)%zones)
	}
	return f
}

func copyFleet(f impl.Fleet) impl.Fleet {
	return impl.Fleet{Zones: f.Zones, At: slices.Clone(f.At), To: slices.Clone(f.To)}
}

func fleetOf(f impl.Fleet, moved ...int64) impl.FleetResult {
	return impl.FleetResult{Fleet: f, Moved: moved}
}

func fleetCode(code int64) impl.FleetResult {
	return impl.FleetResult{Code: code}
}

func sameFleet(a impl.Fleet, b impl.Fleet) bool {
	return a.Zones == b.Zones && slices.Equal(a.At, b.At) && slices.Equal(a.To, b.To)
}

func sameMadeFleet(a impl.FleetResult, b impl.FleetResult) bool {
	return a.Code == b.Code && sameFleet(a.Fleet, b.Fleet) && slices.Equal(a.Moved, b.Moved)
}

func checkFleet(t *testing.T, what string, got impl.FleetResult, want impl.FleetResult) {
	t.Helper()
	if !sameMadeFleet(got, want) {
		t.Errorf("%s: %v, want %v", what, got, want)
	}
}

// checkUrges holds what is told against the plain reckoning, too.
func checkUrges(t *testing.T, what string, f impl.Fleet, want impl.IntsResult) {
	t.Helper()
	checkInts(t, what, impl.UrgesOf(f), want)
	checkInts(t, what+", by the plain reckoning", urgesWant(f), want)
}

func checkMoved(t *testing.T, what string, f impl.Fleet, want impl.FleetResult) {
	t.Helper()
	checkFleet(t, what, impl.MoveFleet(f), want)
	checkFleet(t, what+", by the plain reckoning", movedWant(f), want)
}

func checkRan(t *testing.T, what string, f impl.Fleet, steps int64, want impl.FleetResult) {
	t.Helper()
	checkFleet(t, what, impl.RunFleet(f, steps), want)
	checkFleet(t, what+", by the plain reckoning", ranWant(f, steps), want)
}

// checkFleetFault asks every call that tells the fault of a fleet, too, with another fault beside it.
func checkFleetFault(t *testing.T, what string, f impl.Fleet, code int64) {
	t.Helper()
	if got, want := impl.FleetFault(f), fleetFaultWant(f); got != code || want != code {
		t.Errorf("%s, %s: the fault is %d, want %d (by the plain reckoning %d)", what, brief(f), got, code, want)
	}
	checkUrges(t, what, f, urgesWant(f))
	checkMoved(t, what, f, movedWant(f))
	if code == impl.OK {
		checkRan(t, what, f, 0, fleetOf(f))
		return
	}
	checkUrges(t, what, f, intsCode(code))
	checkMoved(t, what, f, fleetCode(code))
	for _, steps := range numbers(leastInt, -1, 0, 1, 200, 201, greatestInt) {
		checkRan(t, what, f, steps, fleetCode(code))
	}
}

func fleetFaultWant(f impl.Fleet) int64 {
	count := map[int64]int{}
	for _, at := range f.At {
		count[at]++
	}
	var codes faults
	codes.wrong(impl.ErrRange, f.Zones < 1, f.Zones > 30)
	codes.wrong(impl.ErrForm, len(f.At) != len(f.To))
	codes.wrong(impl.ErrMany, int64(len(f.At)) > f.Zones)
	codes.wrong(impl.ErrRange, anyBeyond(f.At, 0, f.Zones-1), anyBeyond(f.To, 0, f.Zones-1))
	codes.wrong(impl.ErrTaken, len(count) < len(f.At))
	return codes.first()
}

// whoWant is the place of the vehicle in each zone, and 1 more.
func whoWant(f impl.Fleet) map[int64]int {
	who := map[int64]int{}
	for i, at := range f.At {
		who[at] = i + 1
	}
	return who
}

// urgesWant looks back from each vehicle along the row of those behind it: is one of them, or itself, not where it is to go?
func urgesWant(f impl.Fleet) impl.IntsResult {
	if code := fleetFaultWant(f); code != impl.OK {
		return intsCode(code)
	}
	who, list := whoWant(f), make([]int64, len(f.At))
	for i, zone := range f.At {
		for back := int64(0); back < f.Zones && who[zone] > 0; back++ {
			if one := who[zone] - 1; f.At[one] != f.To[one] {
				list[i] = 1
			}
			zone = (zone + f.Zones - 1) % f.Zones
		}
	}
	return ints(list...)
}

func movedWant(f impl.Fleet) impl.FleetResult {
	if code := fleetFaultWant(f); code != impl.OK {
		return fleetCode(code)
	}
	who, next, moved := whoWant(f), copyFleet(f), []int64{}
	for i, urge := range urgesWant(f).List {
		if ahead := (f.At[i] + 1) % f.Zones; urge == 1 && who[ahead] == 0 {
			next.At[i], moved = ahead, append(moved, int64(i))
		}
	}
	return fleetOf(next, moved...)
}

func ranWant(f impl.Fleet, steps int64) impl.FleetResult {
	var codes faults
	codes.found(fleetFaultWant(f))
	codes.wrong(impl.ErrRange, steps < 0, steps > 200)
	if len(codes) > 0 {
		return fleetCode(codes.first())
	}
	counts := []int64{}
	for range steps {
		step := movedWant(f)
		f, counts = step.Fleet, append(counts, int64(len(step.Moved)))
	}
	return fleetOf(copyFleet(f), counts...)
}

// fleetEnds stand at and just beyond every bound that chapter 20 names for fleets, and at the ends of int64.
func fleetEnds() []int64 {
	list := numbers(0, 1, 2, 3, 4, 5, 6, 7, 28, 29, 30, 31, 199, 200, 201, 1<<32, wide, 1<<62, greatestInt-1, greatestInt)
	for _, n := range list {
		list = append(list, -n)
	}
	return append(list, leastInt)
}

// someFleet has no fault; a vehicle in about still of eight is where it is to go.
func someFleet(chance *rand.Rand, still int) impl.Fleet {
	f := impl.Fleet{Zones: 1 + chance.Int63n(numbers(5, 12, 30)[chance.Intn(3)])}
	for _, at := range chance.Perm(int(f.Zones))[:chance.Intn(int(f.Zones)+1)] {
		to := chance.Int63n(f.Zones)
		if chance.Intn(8) < still {
			to = int64(at)
		}
		f.At, f.To = append(f.At, int64(at)), append(f.To, to)
	}
	return f
}

// spoiledFleet has one thing or two turned, wherever they stand.
func spoiledFleet(chance *rand.Rand, f impl.Fleet) impl.Fleet {
	f, ends := copyFleet(f), fleetEnds()
	for range 1 + chance.Intn(2) {
		end := ends[chance.Intn(len(ends))]
		switch list := append(slices.Clone(f.At), end); chance.Intn(7) {
		case 0:
			f.Zones = end
		case 1:
			f.At = list
		case 2:
			f.To = append(f.To, end)
		case 3:
			f.At, f.To = append(f.At, end), append(f.To, list[0])
		case 4:
			f.At, f.To = append(f.At, list[0]), append(f.To, end)
		case 5:
			f.At = append(slices.Clone(list[chance.Intn(len(list)):]), list[0])
		case 6:
			copy(f.At[len(f.At)/2:], f.At)
		}
	}
	return f
}

// smallFleets are all of so many zones, in every order of the vehicles.
func smallFleets(zones int64) []impl.Fleet {
	list := []impl.Fleet{{Zones: zones}}
	for i := 0; i < len(list); i++ {
		f := list[i]
		for pair := range zones * zones {
			if at, to := pair/zones, pair%zones; !slices.Contains(f.At, at) {
				grown := copyFleet(f)
				grown.At, grown.To = append(grown.At, at), append(grown.To, to)
				list = append(list, grown)
			}
		}
	}
	return list
}
