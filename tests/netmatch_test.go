package tests

import (
	"math"
	"math/rand"
	"slices"
	"testing"

	"loop.example/g00057/impl"
)

func checkNetlistFault(t *testing.T, what string, n impl.Netlist, want int64) {
	t.Helper()
	if got := impl.NetlistFault(n); got != want {
		t.Errorf("the fault of %s, %s: %d, want %d", what, brief(n), got, want)
	}
	if want != impl.OK {
		checkNetlist(t, "RenameNets, "+what, impl.RenameNets(n, numbers(0, 1)), netlistCode(want))
		checkMatch(t, what, n, impl.Netlist{}, impl.MatchResult{Code: want})
		checkMatch(t, what+", the second", impl.Netlist{}, n, impl.MatchResult{Code: want})
	}
}

// netEnds are at and beyond the bounds of nets, kinds and pins, and at the ends of int64.
func netEnds() []int64 {
	return []int64{math.MinInt64, math.MinInt64 + 1, -(1 << 32), -101, -100, -7, -2, -1, 0, 1, 2, 3, 6, 7, 8, 12, 13, 99, 100, 101, 1 << 32, math.MaxInt64 - 1, math.MaxInt64}
}

func TestNetlistFault(t *testing.T) {
	pins := numbers(0, 1, 1, 0, 1)
	right, bare := device(1, pins[:4]...), device(0)
	wide, kind, pin := device(1, pins...), device(101, 0), device(1, 2)
	cases := []struct {
		name string
		n    impl.Netlist
		want int64
	}{
		{"nothing", impl.Netlist{}, impl.OK},
		{"nets alone", circuit(7), impl.OK},
		{"one net more", circuit(8), impl.ErrMany},
		{"nets below 0", circuit(-1), impl.ErrForm},
		{"the least nets", circuit(math.MinInt64), impl.ErrForm},
		{"the greatest nets", circuit(math.MaxInt64), impl.ErrMany},
		{"devices without pins, and no nets", circuit(0, bare, bare), impl.OK},
		{"a pin, and no nets", circuit(0, device(1, 0)), impl.ErrForm},
		{"as many devices as may be", circuit(2, longer([]impl.Device{right}, 12)...), impl.OK},
		{"one device more", circuit(2, longer([]impl.Device{right}, 13)...), impl.ErrMany},
		{"one device more, with a fault first", circuit(2, longer([]impl.Device{kind}, 13)...), impl.ErrMany},
		{"one device more, and nets below 0", circuit(-1, longer([]impl.Device{bare}, 13)...), impl.ErrMany},
		{"nets below 0, and five pins", circuit(-1, wide), impl.ErrForm},
		{"nets above, and a kind", circuit(8, kind), impl.ErrMany},
		{"the last device", circuit(2, append(longer([]impl.Device{right}, 11), wide)...), impl.ErrMany},
		{"five pins", circuit(2, right, wide), impl.ErrMany},
		{"a kind", circuit(2, right, kind), impl.ErrForm},
		{"a kind, and five pins", circuit(2, device(101, pins...)), impl.ErrForm},
		{"five pins, the first below 0", circuit(2, device(0, -1, 0, 0, 0, 0)), impl.ErrMany},
		{"five pins, then a kind", circuit(2, wide, kind), impl.ErrMany},
		{"a kind, then five pins", circuit(2, kind, wide), impl.ErrForm},
		{"a pin, then five pins", circuit(2, pin, wide), impl.ErrForm},
		{"five pins, then a pin", circuit(2, wide, pin), impl.ErrMany},
	}
	for _, c := range cases {
		checkNetlistFault(t, c.name, c.n, c.want)
	}
}

func TestEndsOfNetlists(t *testing.T) {
	for _, n := range netEnds() {
		for _, list := range [][]impl.Device{nil, {device(100, 0)}, {device(0), device(-1)}, longer([]impl.Device{device(1)}, 13)} {
			checkNetlistFault(t, "some nets", circuit(n, list...), netlistFaultWant(circuit(n, list...)))
		}
		checkNetlistFault(t, "some kind", circuit(2, device(n, 0, 1)), netlistFaultWant(circuit(2, device(n, 0, 1))))
		if want := n >= 0 && n <= 100; (impl.NetlistFault(circuit(2, device(n, 0, 1))) == impl.OK) != want {
			t.Errorf("the kind %d is right: %v", n, !want)
		}
		for nets := range int64(8) {
			for at := range 4 {
				pins := make([]int64, at+1)
				pins[at] = n
				list := circuit(nets, device(7, pins...))
				checkNetlistFault(t, "some pin", list, netlistFaultWant(list))
			}
			if want := n >= 0 && n < nets; (impl.NetlistFault(circuit(nets, device(7, n))) == impl.OK) != want {
				t.Errorf("the pin %d of %d nets is right: %v", n, nets, !want)
			}
		}
	}
}

// someNetlist is right; some of its devices are the same.
func someNetlist(chance *rand.Rand, nets int64, devices int) impl.Netlist {
	n := impl.Netlist{Nets: nets}
	for range devices {
		d := impl.Device{Kind: chance.Int63n(3) * 50}
		for range chance.Intn(5) {
			if nets > 0 {
				d.Pins = append(d.Pins, chance.Int63n(nets))
			}
		}
		if len(n.Devices) > 0 && chance.Intn(4) == 0 {
			d = copyNetlist(n).Devices[chance.Intn(len(n.Devices))]
		}
		n.Devices = append(n.Devices, d)
	}
	return n
}

// spoiledNetlist has one number that is likely wrong, or too many of something.
func spoiledNetlist(chance *rand.Rand, n impl.Netlist) impl.Netlist {
	ends := netEnds()
	end := ends[chance.Intn(len(ends))]
	n = copyNetlist(n)
	n.Devices = append(n.Devices, device(end/2, end), device(end, 0))
	switch chance.Intn(5) {
	case 0:
		n.Nets = end
	case 1:
		n.Devices = longer(n.Devices, 13)
	case 2:
		n.Devices[0].Pins = make([]int64, 5)
	case 3:
		slices.Reverse(n.Devices)
	}
	return n
}

func TestSomeNetlistFaults(t *testing.T) {
	chance := rand.New(rand.NewSource(51))
	met := map[int64]int{}
	for range 3000 {
		n := someNetlist(chance, chance.Int63n(8), chance.Intn(11))
		checkNetlistFault(t, "a right one", n, impl.OK)
		wrong := spoiledNetlist(chance, n)
		met[netlistFaultWant(wrong)]++
		checkNetlistFault(t, "a spoiled one", wrong, netlistFaultWant(wrong))
	}
	if min(met[impl.OK], met[impl.ErrForm], met[impl.ErrMany]) < 20 {
		t.Errorf("the codes are %v", met)
	}
}

func TestRenameByHand(t *testing.T) {
	n := circuit(3, device(1, 0, 1, 2), device(7), device(1, 2, 2), device(100, 0, 1, 0, 1))
	cases := []struct {
		name string
		n    impl.Netlist
		nets []int64
		want impl.NetlistResult
	}{
		{"as they are", n, numbers(0, 1, 2), impl.NetlistResult{Netlist: n}},
		{"round", n, numbers(1, 2, 0), impl.NetlistResult{Netlist: circuit(3, device(1, 1, 2, 0), device(7), device(1, 0, 0), device(100, 1, 2, 1, 2))}},
		{"round the other way", n, numbers(2, 0, 1), impl.NetlistResult{Netlist: circuit(3, device(1, 2, 0, 1), device(7), device(1, 1, 1), device(100, 2, 0, 2, 0))}},
		{"none", n, nil, netlistCode(impl.ErrForm)},
		{"too short", n, numbers(0, 1), netlistCode(impl.ErrForm)},
		{"too long", n, numbers(0, 1, 2, 3), netlistCode(impl.ErrForm)},
		{"too long, one twice", n, numbers(0, 1, 2, 0), netlistCode(impl.ErrForm)},
		{"one twice", n, numbers(0, 1, 1), netlistCode(impl.ErrForm)},
		{"one below 0", n, numbers(-1, 0, 1), netlistCode(impl.ErrForm)},
		{"one too great", n, numbers(1, 2, 3), netlistCode(impl.ErrForm)},
		{"one as great as the nets", n, numbers(0, 1, 3), netlistCode(impl.ErrForm)},
		{"the ends", n, numbers(math.MinInt64, math.MaxInt64, 0), netlistCode(impl.ErrForm)},
		{"no nets", impl.Netlist{}, nil, impl.NetlistResult{}},
		{"no nets, an empty list", impl.Netlist{}, numbers(), impl.NetlistResult{}},
		{"no nets, devices", circuit(0, device(3), device(4)), nil, impl.NetlistResult{Netlist: circuit(0, device(3), device(4))}},
		{"no nets, a name", impl.Netlist{}, numbers(0), netlistCode(impl.ErrForm)},
		{"no devices", circuit(2), numbers(1, 0), impl.NetlistResult{Netlist: circuit(2)}},
		{"a fault, and no naming", circuit(2, device(1, 0, 0, 0, 0, 0)), numbers(0), netlistCode(impl.ErrMany)},
		{"nets below 0", circuit(-1), nil, netlistCode(impl.ErrForm)},
		{"too many nets", circuit(8), numbers(0, 1, 2, 3, 4, 5, 6, 7), netlistCode(impl.ErrMany)},
	}
	for _, c := range cases {
		checkNetlist(t, "RenameNets, "+c.name, impl.RenameNets(c.n, c.nets), c.want)
	}
}

// Every list of up to four numbers, from below 0 to above, is a naming or is not.
func TestRenameByEveryList(t *testing.T) {
	chance := rand.New(rand.NewSource(52))
	for nets := range int64(5) {
		n := someNetlist(chance, nets, 6)
		for count := range 5 {
			for all := range int64(math.Pow(7, float64(count))) {
				var list []int64
				for range count {
					list = append(list, all%7-1)
					all /= 7
				}
				checkNetlist(t, "RenameNets by "+brief(list), impl.RenameNets(n, list), renameWant(n, list))
			}
		}
	}
}

func TestCheckMatchByHand(t *testing.T) {
	one, two, three := device(1, 0, 1), device(1, 1, 0), device(2, 0, 1)
	pair := numbers(0, 1)
	cases := []struct {
		name string
		a, b impl.Netlist
		nets []int64
		want bool
	}{
		{"nothing", impl.Netlist{}, impl.Netlist{}, nil, true},
		{"nets alone", circuit(2), circuit(2), numbers(1, 0), true},
		{"no naming", circuit(2), circuit(2), nil, false},
		{"a naming that is too short", circuit(2), circuit(2), numbers(0), false},
		{"a naming that is too long", circuit(2), circuit(2), numbers(0, 1, 2), false},
		{"a name twice", circuit(2, one), circuit(2, one), numbers(1, 1), false},
		{"a name below 0", circuit(2), circuit(2), numbers(-1, 0), false},
		{"a name too great", circuit(2), circuit(2), numbers(1, 2), false},
		{"other nets", circuit(2), circuit(3), pair, false},
		{"other nets, the second's naming", circuit(2), circuit(3), numbers(0, 1, 2), false},
		{"as it is", circuit(2, one), circuit(2, one), pair, true},
		{"renamed", circuit(2, one), circuit(2, two), numbers(1, 0), true},
		{"not renamed", circuit(2, one), circuit(2, two), pair, false},
		{"another order", circuit(2, one, two, three), circuit(2, three, one, two), pair, true},
		{"another kind", circuit(2, one), circuit(2, three), pair, false},
		{"pins in another order", circuit(2, device(1, 0, 0, 1)), circuit(2, device(1, 0, 1, 0)), pair, false},
		{"fewer pins", circuit(2, device(1, 0)), circuit(2, device(1, 0, 0)), pair, false},
		{"no pins, and noughts", circuit(2, device(1)), circuit(2, device(1, 0, 0, 0, 0)), pair, false},
		{"more pins", circuit(2, device(1, 0, 0)), circuit(2, device(1, 0)), pair, false},
		{"the same twice", circuit(2, one, one, two), circuit(2, one, two, one), pair, true},
		{"other counts", circuit(2, one, one, two), circuit(2, one, two, two), pair, false},
		{"other counts, renamed", circuit(2, one, one, two), circuit(2, one, two, two), numbers(1, 0), true},
		{"fewer devices", circuit(2, one), circuit(2, one, one), pair, false},
		{"more devices", circuit(2, one, one), circuit(2, one), pair, false},
		{"devices and none", circuit(2, one), circuit(2), pair, false},
		{"none and devices", circuit(2), circuit(2, one), pair, false},
		{"the first is wrong", circuit(2, device(101)), circuit(2, device(100)), pair, false},
		{"the second is wrong", circuit(2, device(100)), circuit(2, device(101)), pair, false},
		{"both are wrong, and the same", circuit(2, device(101)), circuit(2, device(101)), pair, false},
		{"too many nets", circuit(8), circuit(8), numbers(0, 1, 2, 3, 4, 5, 6, 7), false},
		{"nets below 0", circuit(-1), circuit(-1), nil, false},
		{"as many as may be", circuit(7), circuit(7), numbers(6, 5, 4, 3, 2, 1, 0), true},
	}
	for _, c := range cases {
		if got := impl.CheckMatch(c.a, c.b, c.nets); got != c.want || checkMatchWant(c.a, c.b, c.nets) != c.want {
			t.Errorf("CheckMatch, %s, is %v, want %v", c.name, got, c.want)
		}
	}
}

// shuffled has the devices in another order.
func shuffled(chance *rand.Rand, n impl.Netlist) impl.Netlist {
	n = copyNetlist(n)
	chance.Shuffle(len(n.Devices), func(i int, j int) { n.Devices[i], n.Devices[j] = n.Devices[j], n.Devices[i] })
	return n
}

// nudged has one device changed a little; it may still be the same circuit.
func nudged(chance *rand.Rand, n impl.Netlist) impl.Netlist {
	n = copyNetlist(n)
	if len(n.Devices) == 0 {
		return n
	}
	d := &n.Devices[chance.Intn(len(n.Devices))]
	switch {
	case chance.Intn(3) == 0:
		d.Kind++
	case len(d.Pins) > 0 && chance.Intn(2) == 0:
		d.Pins[chance.Intn(len(d.Pins))] = chance.Int63n(n.Nets)
	case len(d.Pins) > 0:
		slices.Reverse(d.Pins)
	}
	return n
}

func TestSomeMatches(t *testing.T) {
	chance := rand.New(rand.NewSource(53))
	namings := make([][][]int64, 8)
	for nets := range namings {
		namings[nets] = namingsOf(int64(nets))
	}
	met := map[bool]int{}
	for range 6000 {
		a := someNetlist(chance, chance.Int63n(8), chance.Intn(13))
		all := namings[a.Nets]
		nets := all[chance.Intn(len(all))]
		b := shuffled(chance, nudged(chance, renameWant(a, nets).Netlist))
		want := checkMatchWant(a, b, nets)
		met[want]++
		if got := impl.CheckMatch(a, b, nets); got != want {
			t.Errorf("CheckMatch %s, %s, %v is %v, want %v", brief(a), brief(b), nets, got, want)
		}
		other := all[chance.Intn(len(all))]
		if got, want := impl.CheckMatch(a, b, other), checkMatchWant(a, b, other); got != want {
			t.Errorf("CheckMatch %s, %s, %v is %v, want %v", brief(a), brief(b), other, got, want)
		}
	}
	if min(met[true], met[false]) < 500 {
		t.Errorf("the answers are %v", met)
	}
}

func TestMatchByHand(t *testing.T) {
	one, two := device(1, 0, 1), device(1, 1, 0)
	found := func(nets ...int64) impl.MatchResult { return impl.MatchResult{Nets: nets} }
	none := impl.MatchResult{Code: impl.ErrNone}
	wide, kind := circuit(1, device(1, 0, 0, 0, 0, 0)), circuit(1, device(101))
	cases := []struct {
		name string
		a, b impl.Netlist
		want impl.MatchResult
	}{
		{"nothing", impl.Netlist{}, impl.Netlist{}, found()},
		{"no nets, devices", circuit(0, device(5), device(6)), circuit(0, device(6), device(5)), found()},
		{"no nets, other devices", circuit(0, device(5), device(6)), circuit(0, device(5), device(5)), none},
		{"nets that no device names", circuit(7), circuit(7), found(0, 1, 2, 3, 4, 5, 6)},
		{"other nets", circuit(6), circuit(7), none},
		{"fewer nets", circuit(7), circuit(6), none},
		{"no nets, and one", circuit(0), circuit(1), none},
		{"fewer devices", circuit(2, one), circuit(2, one, one), none},
		{"more devices", circuit(2, one, one), circuit(2, one), none},
		{"as it is", circuit(2, one), circuit(2, one), found(0, 1)},
		{"turned round", circuit(2, one), circuit(2, two), found(1, 0)},
		{"both ways fit", circuit(2, one, two), circuit(2, two, one), found(0, 1)},
		{"other counts", circuit(2, one, one, two), circuit(2, two, two, one), found(1, 0)},
		{"another kind", circuit(2, one), circuit(2, device(2, 0, 1)), none},
		{"one net twice", circuit(2, device(1, 0, 0)), circuit(2, one), none},
		{"the first number counts ahead of the second", circuit(4, device(1, 0, 1)), circuit(4, device(1, 2, 1)), found(2, 1, 0, 3)},
		{"the unnamed take what is left, in order", circuit(5, device(1, 2), device(2, 4)), circuit(5, device(1, 0), device(2, 1)), found(2, 3, 0, 4, 1)},
		{"two of a kind", circuit(3, device(1, 0), device(1, 1)), circuit(3, device(1, 2), device(1, 1)), found(1, 2, 0)},
		{"a round of three", circuit(3, device(1, 0, 1), device(1, 1, 2), device(1, 2, 0)), circuit(3, device(1, 2, 1), device(1, 1, 0), device(1, 0, 2)), found(0, 2, 1)},
		{"the last of all namings", circuit(4, device(0, 0), device(1, 1), device(2, 2), device(3, 3)), circuit(4, device(3, 0), device(2, 1), device(1, 2), device(0, 3)), found(3, 2, 1, 0)},
		{"the first is wrong", wide, kind, impl.MatchResult{Code: impl.ErrMany}},
		{"the first is wrong, turned round", kind, wide, impl.MatchResult{Code: impl.ErrForm}},
		{"the second is wrong", circuit(7), wide, impl.MatchResult{Code: impl.ErrMany}},
		{"the same, and wrong", kind, kind, impl.MatchResult{Code: impl.ErrForm}},
	}
	for _, c := range cases {
		checkMatch(t, c.name, c.a, c.b, c.want)
		if c.want.Code == impl.OK && !impl.CheckMatch(c.a, c.b, c.want.Nets) {
			t.Errorf("%s: the naming does not fit", c.name)
		}
	}
}

// A circuit that is renamed is found, by each naming, with the first naming that fits.
func TestMatchOfEveryNaming(t *testing.T) {
	chance := rand.New(rand.NewSource(54))
	several := 0
	for nets := range int64(5) {
		namings := namingsOf(nets)
		for range 60 {
			a := someNetlist(chance, nets, chance.Intn(9))
			for _, naming := range namings {
				b := shuffled(chance, impl.RenameNets(a, naming).Netlist)
				want := matchWant(a, b, namings)
				if want.Code != impl.OK {
					t.Fatalf("%s, renamed by %v, is not found by trying", brief(a), naming)
				}
				if !slices.Equal(want.Nets, naming) {
					several++
				}
				checkMatch(t, "renamed", a, b, want)
			}
			b := nudged(chance, a)
			checkMatch(t, "nudged", a, b, matchWant(a, b, namings))
		}
	}
	if several < 100 {
		t.Errorf("%d times an earlier naming fits", several)
	}
}

func TestMatchOfSevenNets(t *testing.T) {
	chance := rand.New(rand.NewSource(55))
	namings := namingsOf(7)
	met := map[int64]int{}
	for i := range 60 {
		a := someNetlist(chance, 7, 12-i%5)
		naming := namings[chance.Intn(len(namings))]
		b := shuffled(chance, renameWant(a, naming).Netlist)
		checkMatch(t, "renamed", a, b, matchWant(a, b, namings))
		if !impl.CheckMatch(a, b, impl.MatchNets(a, b).Nets) {
			t.Errorf("what is found of %s does not fit", brief(a))
		}
		b = nudged(chance, b)
		want := matchWant(a, b, namings)
		met[want.Code]++
		checkMatch(t, "nudged", a, b, want)
	}
	if min(met[impl.OK], met[impl.ErrNone]) < 3 {
		t.Errorf("the codes are %v", met)
	}
}

// A line of devices fits by one naming alone, and a list that differs in its last device by none.
func TestMatchOfALine(t *testing.T) {
	var list []impl.Device
	for i := range int64(12) {
		list = append(list, device(i/6, i%6, i%6+1))
	}
	a := circuit(7, list...)
	for _, naming := range [][]int64{{6, 5, 4, 3, 2, 1, 0}, {0, 1, 2, 3, 4, 5, 6}, {3, 6, 0, 5, 1, 4, 2}} {
		b := impl.RenameNets(a, naming).Netlist
		checkMatch(t, "a line", a, b, impl.MatchResult{Nets: naming})
		b.Devices[11].Kind++
		checkMatch(t, "a line with another end", a, b, impl.MatchResult{Code: impl.ErrNone})
	}
}
