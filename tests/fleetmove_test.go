package tests

import (
	"math/rand"
	"slices"
	"testing"

	"loop.example/g00057/impl"
)

// ringCase is a fleet, who of it is to move, and who moves.
type ringCase struct {
	name  string
	fleet impl.Fleet
	urges []int64
	at    []int64
	moved []int64
}

func pushCases() []ringCase {
	return []ringCase{
		{"none", fleet(4), nil, nil, nil},
		{"one that stands", fleet(4, 2, 2), numbers(0), numbers(2), nil},
		{"one that goes", fleet(4, 2, 1), numbers(1), numbers(3), numbers(0)},
		{"one that goes around the end", fleet(4, 3, 1), numbers(1), numbers(0), numbers(0)},
		{"the only zone", fleet(1, 0, 0), numbers(0), numbers(0), nil},
		{"two zones", fleet(2, 1, 0), numbers(1), numbers(0), numbers(0)},
		{"pushed on by one behind", fleet(4, 0, 2, 1, 1), numbers(1, 1), numbers(0, 2), numbers(1)},
		{"pushed on, the other way in the list", fleet(4, 1, 1, 0, 2), numbers(1, 1), numbers(2, 0), numbers(0)},
		{"not pushed on by one ahead", fleet(4, 0, 0, 1, 3), numbers(0, 1), numbers(0, 2), numbers(1)},
		{"not pushed on over a gap", fleet(5, 0, 2, 2, 2), numbers(1, 0), numbers(1, 2), numbers(0)},
		{"not pushed on by one that stands", fleet(5, 0, 0, 1, 1, 2, 2), numbers(0, 0, 0), numbers(0, 1, 2), nil},
		{"pushed on by a row", fleet(6, 0, 4, 1, 1, 2, 2, 3, 3), numbers(1, 1, 1, 1), numbers(0, 1, 2, 4), numbers(3)},
		{"pushed on from the middle of a row", fleet(6, 0, 0, 1, 4, 2, 2), numbers(0, 1, 1), numbers(0, 1, 3), numbers(2)},
		{"a row in any order", fleet(6, 2, 2, 0, 4, 3, 3, 1, 1), numbers(1, 1, 1, 1), numbers(2, 0, 4, 1), numbers(2)},
		{"pushed on around the end", fleet(4, 3, 1, 0, 0), numbers(1, 1), numbers(3, 1), numbers(1)},
		{"a row around the end", fleet(6, 0, 0, 5, 5, 4, 1, 1, 1), numbers(1, 1, 1, 1), numbers(0, 5, 4, 2), numbers(3)},
		{"a row around the end, pushed on behind it", fleet(6, 0, 2, 5, 5, 1, 1), numbers(1, 0, 1), numbers(0, 5, 2), numbers(2)},
		{"two rows", fleet(8, 0, 3, 1, 1, 4, 4, 5, 0), numbers(1, 1, 0, 1), numbers(0, 2, 4, 6), numbers(1, 3)},
		{"several go at one time", fleet(6, 4, 0, 0, 1, 2, 5), numbers(1, 1, 1), numbers(5, 1, 3), numbers(0, 1, 2)},
		{"behind one that goes", fleet(6, 0, 4, 1, 4), numbers(1, 1), numbers(0, 2), numbers(1)},
		{"beyond where it is to go", fleet(3, 1, 1, 0, 1), numbers(1, 1), numbers(2, 0), numbers(0)},
	}
}

func fullCases() []ringCase {
	return []ringCase{
		{"full, all stand", fullFleet(4, 0), numbers(0, 0, 0, 0), numbers(0, 1, 2, 3), nil},
		{"full, all go", fullFleet(4, 1), numbers(1, 1, 1, 1), numbers(0, 1, 2, 3), nil},
		{"full, the first goes", fleet(4, 0, 1, 1, 1, 2, 2, 3, 3), numbers(1, 1, 1, 1), numbers(0, 1, 2, 3), nil},
		{"full, the last goes", fleet(4, 0, 0, 1, 1, 2, 2, 3, 2), numbers(1, 1, 1, 1), numbers(0, 1, 2, 3), nil},
		{"full, one in the middle goes", fleet(4, 0, 0, 1, 3, 2, 2, 3, 3), numbers(1, 1, 1, 1), numbers(0, 1, 2, 3), nil},
		{"two of two zones", fleet(2, 1, 0, 0, 0), numbers(1, 1), numbers(1, 0), nil},
		{"full but for one zone, all go", fleet(4, 0, 2, 1, 3, 3, 1), numbers(1, 1, 1), numbers(0, 2, 3), numbers(1)},
		{"full but for one zone, the one behind it all goes", fleet(4, 0, 0, 1, 1, 3, 2), numbers(1, 1, 1), numbers(0, 2, 3), numbers(1)},
		{"full but for one zone, the one ahead of it all goes", fleet(4, 0, 0, 1, 2, 3, 3), numbers(0, 1, 0), numbers(0, 2, 3), numbers(1)},
	}
}

func TestUrgesAndMovesByHand(t *testing.T) {
	for _, cases := range [][]ringCase{pushCases(), fullCases()} {
		for _, c := range cases {
			checkUrges(t, c.name, c.fleet, ints(c.urges...))
			moved := fleetOf(impl.Fleet{Zones: c.fleet.Zones, At: c.at, To: c.fleet.To}, c.moved...)
			checkMoved(t, c.name, c.fleet, moved)
			checkRan(t, c.name, c.fleet, 1, fleetOf(moved.Fleet, int64(len(c.moved))))
		}
	}
	all := fullFleet(30, 0)
	checkUrges(t, "MaxZones, all stand", all, ints(longer(numbers(0), 30)...))
	checkMoved(t, "MaxZones, all stand", all, fleetOf(all))
	for i := range all.To {
		one := copyFleet(all)
		one.To[i] = (one.To[i] + 1) % 30
		checkUrges(t, "MaxZones, one goes", one, ints(longer(numbers(1), 30)...))
		checkMoved(t, "MaxZones, one goes", one, fleetOf(one))
	}
}

// checkRing asks what holds of every step of every fleet.
func checkRing(t *testing.T, f impl.Fleet) {
	t.Helper()
	urges, step := urgesWant(f), movedWant(f)
	checkUrges(t, brief(f), f, urges)
	checkMoved(t, brief(f), f, step)
	got := impl.MoveFleet(f)
	if got.Code != impl.OK || impl.FleetFault(got.Fleet) != impl.OK || got.Fleet.Zones != f.Zones || !slices.Equal(got.Fleet.To, f.To) {
		t.Fatalf("%v becomes %v", f, got)
	}
	if len(got.Moved) == 0 && slices.Contains(impl.UrgesOf(f).List, 1) && int64(len(f.At)) < f.Zones {
		t.Fatalf("all of %v stand", f)
	}
	if !slices.IsSorted(got.Moved) {
		t.Fatalf("of %v these moved: %v", f, got.Moved)
	}
	for i, at := range got.Fleet.At {
		gone := (at - f.At[i] + f.Zones) % f.Zones
		if gone != bit(slices.Contains(got.Moved, int64(i))) || gone == 1 && slices.Contains(f.At, at) {
			t.Fatalf("%v becomes %v", f, got)
		}
	}
}

func TestRingsOfAllSmall(t *testing.T) {
	for zones := int64(1); zones <= 4; zones++ {
		for _, f := range smallFleets(zones) {
			checkRing(t, f)
		}
	}
}

func TestSomeRings(t *testing.T) {
	chance := rand.New(rand.NewSource(230))
	full, pushed := 0, 0
	for i := range 6000 {
		f := someFleet(chance, numbersOf(0, 4, 7, 8)[i%4])
		checkRing(t, f)
		full += int(bit(len(f.At) == int(f.Zones)))
		for i, urge := range urgesWant(f).List {
			pushed += int(bit(urge == 1 && f.At[i] == f.To[i]))
		}
	}
	if full < 50 || pushed < 500 {
		t.Errorf("%d rings are full, %d vehicles are pushed on", full, pushed)
	}
}

// Where the ring begins does not matter, nor in which order the vehicles are told.
func TestTurnedRings(t *testing.T) {
	chance := rand.New(rand.NewSource(231))
	for range 1500 {
		f := someFleet(chance, chance.Intn(9))
		turn, order := chance.Int63n(f.Zones), chance.Perm(len(f.At))
		turned := impl.Fleet{Zones: f.Zones}
		for _, i := range order {
			turned.At, turned.To = append(turned.At, (f.At[i]+turn)%f.Zones), append(turned.To, (f.To[i]+turn)%f.Zones)
		}
		urges, moved := impl.UrgesOf(f), impl.MoveFleet(f)
		var turnedUrges, turnedAt []int64
		for _, i := range order {
			turnedUrges, turnedAt = append(turnedUrges, urges.List[i]), append(turnedAt, (moved.Fleet.At[i]+turn)%f.Zones)
		}
		checkInts(t, brief(f), impl.UrgesOf(turned), ints(turnedUrges...))
		if got := impl.MoveFleet(turned); !slices.Equal(got.Fleet.At, turnedAt) || len(got.Moved) != len(moved.Moved) {
			t.Errorf("%v, turned and mixed, becomes %v, want %v", f, got, turnedAt)
		}
	}
}

func TestRunFleetByHand(t *testing.T) {
	f := plainFleet()
	checkRan(t, "no steps", f, 0, fleetOf(f))
	checkRan(t, "one step", f, 1, fleetOf(fleet(6, 0, 3, 2, 1, 4, 5), 2))
	checkRan(t, "two steps", f, 2, fleetOf(fleet(6, 1, 3, 3, 1, 5, 5), 2, 3))
	checkRan(t, "three steps", f, 3, fleetOf(fleet(6, 2, 3, 4, 1, 5, 5), 2, 3, 2))
	checkRan(t, "until all stand", fleet(5, 0, 3, 1, 1), 7, fleetOf(fleet(5, 3, 3, 1, 1), 1, 2, 2, 2, 1, 0, 0))
	checkRan(t, "none, three steps", fleet(2), 3, fleetOf(fleet(2), 0, 0, 0))
	checkRan(t, "a full ring", fullFleet(3, 1), 2, fleetOf(fullFleet(3, 1), 0, 0))
	checkRan(t, "alone around the ring", fleet(5, 3, 2), 6, fleetOf(fleet(5, 2, 2), 1, 1, 1, 1, 0, 0))
	for _, steps := range fleetEnds() {
		if steps < 0 || steps > 200 {
			checkRan(t, "beyond", f, steps, fleetCode(impl.ErrRange))
			checkRan(t, "beyond, none", fleet(1), steps, fleetCode(impl.ErrRange))
		} else {
			checkRan(t, "within", f, steps, ranWant(f, steps))
			checkRan(t, "within, none", fleet(1), steps, fleetOf(fleet(1), longer(numbers(0), int(steps))...))
		}
	}
}

// A run in two goes is the run at once; each step of it is one of MoveFleet.
func TestRunsInTwoGoes(t *testing.T) {
	chance := rand.New(rand.NewSource(232))
	for range 400 {
		f := someFleet(chance, chance.Intn(9))
		first, second := chance.Int63n(101), chance.Int63n(101)
		whole := impl.RunFleet(f, first+second)
		checkRan(t, brief(f), f, first+second, ranWant(f, first+second))
		start := impl.RunFleet(f, first)
		rest := impl.RunFleet(start.Fleet, second)
		checkFleet(t, brief(f), fleetOf(rest.Fleet, append(start.Moved, rest.Moved...)...), whole)
		now := impl.FleetResult{Fleet: f}
		for _, count := range whole.Moved {
			now = impl.MoveFleet(now.Fleet)
			if now.Code != impl.OK || int64(len(now.Moved)) != count {
				t.Fatalf("of %v %d moved, and by steps %v", f, count, now)
			}
		}
		checkFleet(t, brief(f), fleetOf(now.Fleet), fleetOf(whole.Fleet))
	}
}

// Nobody moves behind a step in which nobody moved; then all are where they are to go, or the ring is full.
func TestRunsThatStand(t *testing.T) {
	chance := rand.New(rand.NewSource(233))
	met := 0
	for range 1000 {
		f := someFleet(chance, chance.Intn(9))
		run := impl.RunFleet(f, 200)
		stand := slices.Index(run.Moved, 0)
		if stand < 0 {
			continue
		}
		met++
		if slices.Max(run.Moved[stand:]) > 0 || len(f.At) < int(f.Zones) && !slices.Equal(run.Fleet.At, run.Fleet.To) {
			t.Errorf("%v becomes %v", f, run)
		}
	}
	if met < 300 {
		t.Errorf("%d runs stand", met)
	}
}
