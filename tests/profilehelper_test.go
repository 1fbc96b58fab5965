package tests

import (
	"math/rand"
	"slices"
	"testing"

	"loop.example/g00057/impl"
)

const mostAtoms = 1000000000

func profile(out int64, cells ...int64) impl.Profile {
	return impl.Profile{Cells: cells, Out: out}
}

func profileOf(out int64, cells ...int64) impl.ProfileResult {
	return impl.ProfileResult{Profile: profile(out, cells...)}
}

func profileCode(code int64) impl.ProfileResult {
	return impl.ProfileResult{Code: code}
}

// level has n cells that are alike.
func level(out int64, n int, atoms int64) impl.Profile {
	return profile(out, slices.Repeat(numbers(atoms), n)...)
}

// withAtoms has another number at that depth, or in Out, behind the last.
func withAtoms(p impl.Profile, depth int, atoms int64) impl.Profile {
	p.Cells = slices.Clone(p.Cells)
	if depth < len(p.Cells) {
		p.Cells[depth] = atoms
	} else {
		p.Out = atoms
	}
	return p
}

func sameProfile(a impl.Profile, b impl.Profile) bool {
	return a.Out == b.Out && slices.Equal(a.Cells, b.Cells)
}

func sameMade(a impl.ProfileResult, b impl.ProfileResult) bool {
	return a.Code == b.Code && sameProfile(a.Profile, b.Profile)
}

func checkMade(t *testing.T, what string, got impl.ProfileResult, want impl.ProfileResult) {
	t.Helper()
	if !sameMade(got, want) {
		t.Errorf("%s: %s, want %s", what, brief(got), brief(want))
	}
}

// bookOf is what a profile has, reckoned here; it wants no fault.
func bookOf(p impl.Profile) int64 {
	return totalOf(grid(p.Cells)) + p.Out
}

// checkAtoms asks that no atom is lost and none is added but those that were implanted.
func checkAtoms(t *testing.T, what string, before impl.Profile, implanted int64, after impl.ProfileResult) {
	t.Helper()
	if after.Code != impl.OK {
		return
	}
	there := impl.DoseOf(after.Profile)
	if there != value(bookOf(before)+implanted) || there.Value != bookOf(after.Profile) {
		t.Errorf("%s: of %s and %d there is %s", what, brief(before), implanted, brief(after))
	}
}

func profileFaultWant(p impl.Profile) int64 {
	var codes faults
	codes.wrong(impl.ErrForm, len(p.Cells) == 0)
	codes.wrong(impl.ErrMany, len(p.Cells) >= 41)
	codes.wrong(impl.ErrRange, slices.Min(append(p.Cells[:len(p.Cells):len(p.Cells)], p.Out)) < 0)
	codes.wrong(impl.ErrRange, slices.Max(append(p.Cells[:len(p.Cells):len(p.Cells)], p.Out)) > mostAtoms)
	return codes.first()
}

// madeWant is the answer where nothing else was wrong: the profile, but where it has too many atoms in one place.
func madeWant(out int64, cells []int64) impl.ProfileResult {
	if slices.Max(append(cells[:len(cells):len(cells)], out)) > mostAtoms {
		return profileCode(impl.ErrRange)
	}
	return profileOf(out, cells...)
}

func doseWant(p impl.Profile) impl.ShapeInt {
	if code := profileFaultWant(p); code != impl.OK {
		return valueCode(code)
	}
	return value(bookOf(p))
}

func tableFaultWant(p impl.Profile, dose int64, shares []int64, from int64) int64 {
	var codes faults
	codes.found(profileFaultWant(p))
	codes.wrong(impl.ErrForm, len(shares) == 0)
	codes.wrong(impl.ErrMany, len(shares) >= 41)
	codes.wrong(impl.ErrRange, dose < 0, dose > 1000000, from < 0, from > 40)
	together := int64(0)
	for _, share := range shares {
		codes.wrong(impl.ErrRange, share < 0, share > 1000)
		together += clampedTo(share, 0, 1001)
	}
	codes.wrong(impl.ErrRange, together >= 1001)
	return codes.first()
}

// tableWant asks depth by depth what comes there; all that comes to none is in Out.
func tableWant(p impl.Profile, dose int64, shares []int64, from int64) impl.ProfileResult {
	if code := tableFaultWant(p, dose, shares, from); code != impl.OK {
		return profileCode(code)
	}
	cells, left := slices.Clone(p.Cells), dose
	for depth := range cells {
		if i := depth - int(from); i >= 0 && i < len(shares) {
			thousandths := dose * shares[i]
			cells[depth] += (thousandths - thousandths%1000) / 1000
			left -= (thousandths - thousandths%1000) / 1000
		}
	}
	return madeWant(p.Out+left, cells)
}

// coinsImplantWant takes one coin after the other, each from the seed that the last one left.
func coinsImplantWant(p impl.Profile, many int64, kicks int64, seed int64) impl.ProfileResult {
	var codes faults
	codes.found(profileFaultWant(p))
	codes.wrong(impl.ErrForm, seed <= 0, seed >= 2147483647)
	codes.wrong(impl.ErrRange, many < 0, many > 200, kicks < 1, kicks > 20)
	if code := codes.first(); code != impl.OK {
		return profileCode(code)
	}
	made := profile(p.Out, slices.Clone(p.Cells)...)
	for range many {
		depth := 0
		for range kicks {
			coin := coinsWant(seed, 1, 3)
			depth, seed = depth+int(coin.List[0]), coin.Next
		}
		if depth < len(made.Cells) {
			made.Cells[depth]++
		} else {
			made.Out++
		}
	}
	return madeWant(made.Out, made.Cells)
}

// annealedWant asks of each cell what it keeps and what comes to it.
func annealedWant(p impl.Profile, share int64) impl.Profile {
	gift := func(depth int) int64 {
		if depth < 0 || depth >= len(p.Cells) {
			return 0
		}
		return p.Cells[depth] * share >> 6
	}
	var next impl.Profile
	for depth, atoms := range p.Cells {
		stays := atoms - gift(depth) - gift(depth)
		if depth == 0 {
			stays = atoms - gift(depth)
		}
		next.Cells = append(next.Cells, gift(depth-1)+stays+gift(depth+1))
	}
	next.Out = p.Out + gift(len(p.Cells)-1)
	return next
}

func annealWant(p impl.Profile, share int64, steps int64) impl.ProfileResult {
	var codes faults
	codes.found(profileFaultWant(p))
	codes.wrong(impl.ErrRange, share < 0, share > 32, steps < 0, steps > 50)
	if code := codes.first(); code != impl.OK {
		return profileCode(code)
	}
	for range steps {
		p = annealedWant(p, share)
	}
	return madeWant(p.Out, slices.Clone(p.Cells))
}

func stripWant(p impl.Profile, cells int64) impl.ProfileResult {
	var codes faults
	codes.found(profileFaultWant(p))
	codes.wrong(impl.ErrRange, cells < 0, cells >= int64(len(p.Cells)))
	if code := codes.first(); code != impl.OK {
		return profileCode(code)
	}
	return madeWant(p.Out+totalOf(grid(p.Cells[:cells])), slices.Clone(p.Cells[cells:]))
}

// junctionWant asks each depth whether one ahead of it is not below.
func junctionWant(p impl.Profile, against int64) impl.ShapeInt {
	var codes faults
	codes.found(profileFaultWant(p))
	codes.wrong(impl.ErrRange, against < 0, against > mostAtoms)
	if code := codes.first(); code != impl.OK {
		return valueCode(code)
	}
	for depth, atoms := range p.Cells {
		if atoms < against && slices.Max(append(p.Cells[:depth:depth], -1)) >= against {
			return value(int64(depth))
		}
	}
	return valueCode(impl.ErrNone)
}

func activeWant(p impl.Profile, most int64) impl.ProfileResult {
	var codes faults
	codes.found(profileFaultWant(p))
	codes.wrong(impl.ErrRange, most < 0, most > mostAtoms)
	if code := codes.first(); code != impl.OK {
		return profileCode(code)
	}
	cells, out := slices.Clone(p.Cells), p.Out
	for depth, atoms := range cells {
		if atoms > most {
			cells[depth], out = most, out+atoms-most
		}
	}
	return madeWant(out, cells)
}

// someProfile has n cells, each of at most so many atoms; one in four cells is empty, or near the most there may be.
func someProfile(chance *rand.Rand, n int, atoms int64) impl.Profile {
	p := level(chance.Int63n(atoms+1), n, 0)
	for depth := range p.Cells {
		p.Cells[depth] = chance.Int63n(atoms+1) * min(chance.Int63n(8), 1)
		if chance.Intn(8) == 0 {
			p.Cells[depth] = atoms - chance.Int63n(min(atoms, 3)+1)
		}
	}
	return p
}

// someShares are at most 1000 together.
func someShares(chance *rand.Rand, n int) []int64 {
	list, left := make([]int64, n), int64(1000)
	for _, i := range chance.Perm(n) {
		list[i] = chance.Int63n(min(left, 1+3000/int64(n)) + 1)
		left -= list[i]
	}
	return list
}

// allProfiles are all those of at most n cells that have one of these numbers each.
func allProfiles(n int, out int64, atoms ...int64) []impl.Profile {
	var list []impl.Profile
	last := [][]int64{nil}
	for range n {
		var next [][]int64
		for _, cells := range last {
			for _, more := range atoms {
				next = append(next, append(slices.Clone(cells), more))
				list = append(list, profile(out, next[len(next)-1]...))
			}
		}
		last = next
	}
	return list
}

// profileEnds are the bounds of chapter 13 and what lies beside them.
func profileEnds() []int64 {
	list := numbers(0, 1, 2, 3, 19, 20, 21, 31, 32, 33, 39, 40, 41, 49, 50, 51, 199, 200, 201, 999, 1000, 1001, 999999, 1000000, 1000001,
		mostAtoms-1, mostAtoms, mostAtoms+1, impl.CoinPrime-1, impl.CoinPrime, impl.CoinPrime+1, 1<<32, greatestInt-1, greatestInt)
	for _, n := range list {
		list = append(list, -n)
	}
	return append(list, leastInt)
}
