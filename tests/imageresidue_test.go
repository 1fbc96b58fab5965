package tests

import (
	"math"
	"math/rand"
	"testing"

	"loop.example/g00057/impl"
)

func ints(list ...int64) impl.IntsResult {
	return impl.IntsResult{List: list}
}

func TestModImageByHand(t *testing.T) {
	const prime = int64(impl.Prime)
	for _, c := range []struct {
		what               string
		mask, back, shifts []int64
		want               impl.IntsResult
	}{
		{"half of four", numbers(1, 1, 0, 0), numbers(1, 1, 0, 0), numbers(0), ints(4, 2, 0, 2)},
		{"no shifts", numbers(1, 1, 0, 0), numbers(1, 1, 0, 0), nil, ints(0, 0, 0, 0)},
		{"two shifts", numbers(1, 1, 0, 0), numbers(1, 1, 0, 0), numbers(0, 3), ints(8, 4, 0, 4)},
		{"one number", numbers(5), numbers(7), numbers(0), ints(35)},
		{"one number, three shifts", numbers(5), numbers(7), numbers(0, math.MinInt64, math.MaxInt64), ints(105)},
		{"below 0", numbers(-1), numbers(1), numbers(0), ints(prime - 1)},
		{"both below 0", numbers(-2), numbers(-3), numbers(0), ints(6)},
		{"Prime is 0", numbers(prime), numbers(prime), numbers(0), ints(0)},
		{"one more than Prime", numbers(prime + 1), numbers(prime - 1), numbers(0), ints(prime - 1)},
		{"one less, squared", numbers(prime - 1), numbers(prime - 1), numbers(0), ints(1)},
		{"two numbers", numbers(3, 1), numbers(5, 2), numbers(0), ints(28, 6)},
		{"two numbers, shifted", numbers(3, 1), numbers(5, 2), numbers(1), ints(28, 6)},
		{"two numbers, a difference below 0", numbers(1, 3), numbers(5, 2), numbers(0), ints(28, prime-6)},
		{"the middle alone", numbers(0, 1, 0, 0), numbers(0, 1, 0, 0), numbers(0), ints(1, 1, 1, 1)},
		{"two others", numbers(0, 1), numbers(1, 0), numbers(0), ints(1, prime-1)},
	} {
		checkInts(t, c.what, impl.ModImage(c.mask, c.back, c.shifts), c.want)
		checkInts(t, c.what+", reckoned", c.want, modImageWant(c.mask, c.back, c.shifts))
	}
}

// The turned one of one place is the root, and its powers: 3 to the power (Prime - 1) / 4 is 911660635.
func TestModImageTellsTheRoot(t *testing.T) {
	checkInts(t, "one ahead", impl.ModImage(numbers(0, 1, 0, 0), numbers(1, 0, 0, 0), numbers(0)), ints(1, 911660635, 998244352, 86583718))
	checkInts(t, "one behind", impl.ModImage(numbers(1, 0, 0, 0), numbers(0, 1, 0, 0), numbers(0)), ints(1, 86583718, 998244352, 911660635))
}

func TestFaultsOfModImages(t *testing.T) {
	few, many := numbers(0), make([]int64, 13)
	of := func(n int) []int64 { return make([]int64, n) }
	for _, c := range []struct {
		what               string
		mask, back, shifts []int64
		want               int64
	}{
		{"nothing", nil, nil, nil, impl.ErrForm}, {"no mask", nil, of(1), few, impl.ErrForm}, {"no back", of(1), nil, few, impl.ErrForm}, {"three", of(3), of(3), few, impl.ErrForm}, {"33", of(33), of(33), few, impl.ErrForm}, {"48", of(48), of(48), few, impl.ErrForm},
		{"back shorter", of(4), of(3), few, impl.ErrForm}, {"back longer", of(4), of(5), few, impl.ErrForm}, {"back twice as long", of(4), of(8), few, impl.ErrForm}, {"back half as long", of(4), of(2), few, impl.ErrForm}, {"mask no power, back one", of(3), of(4), few, impl.ErrForm},
		{"64", of(64), of(64), few, impl.ErrMany}, {"4096", of(4096), of(4096), few, impl.ErrMany}, {"4095", of(4095), of(4095), few, impl.ErrForm}, {"64, and back shorter", of(64), of(32), few, impl.ErrForm}, {"32, and back longer", of(32), of(64), few, impl.ErrForm},
		{"too many shifts", of(4), of(4), many, impl.ErrMany}, {"too many shifts, and three", of(3), of(3), many, impl.ErrForm}, {"too many shifts, and no mask", nil, nil, many, impl.ErrForm}, {"too many shifts, and back longer", of(4), of(8), many, impl.ErrForm},
		{"too many shifts, and 64", of(64), of(64), many, impl.ErrMany}, {"far too many shifts", of(4), of(4), of(5000), impl.ErrMany},
		{"as many shifts as may be", of(4), of(4), many[:12], impl.OK}, {"1", of(1), of(1), few, impl.OK}, {"2", of(2), of(2), few, impl.OK}, {"8", of(8), of(8), few, impl.OK}, {"16", of(16), of(16), few, impl.OK}, {"32", of(32), of(32), few, impl.OK}, {"32, no shifts", of(32), of(32), nil, impl.OK},
	} {
		got := impl.ModImage(c.mask, c.back, c.shifts)
		long := 0
		if c.want == impl.OK {
			long = len(c.mask)
		}
		if got.Code != c.want || len(got.List) != long {
			t.Errorf("%s: %s, want %d", c.what, brief(got), c.want)
		}
		checkInts(t, c.what, got, modImageWant(c.mask, c.back, c.shifts))
	}
}

// someResidues are small, near Prime, and of any size.
func someResidues(chance *rand.Rand, n int) []int64 {
	ends := imageEnds()
	var list []int64
	for range n {
		switch chance.Intn(3) {
		case 0:
			list = append(list, ends[chance.Intn(len(ends))])
		case 1:
			list = append(list, chance.Int63n(21)-10)
		default:
			list = append(list, int64(chance.Uint64()))
		}
	}
	return list
}

func TestModImageOfEachLength(t *testing.T) {
	chance := rand.New(rand.NewSource(83))
	for n := range 35 {
		for shifts := range 14 {
			mask, back, moved := someResidues(chance, n), someResidues(chance, n), someResidues(chance, shifts)
			checkInts(t, brief(mask)+brief(back)+brief(moved), impl.ModImage(mask, back, moved), modImageWant(mask, back, moved))
		}
	}
}

func TestModImageOfEnds(t *testing.T) {
	for _, n := range imageEnds() {
		for _, m := range numbers(n, 1, math.MinInt64, math.MaxInt64) {
			for _, shift := range numbers(n, -n, 0) {
				mask, back, shifts := numbers(n, m, 1, n), numbers(m, 3, n, n), numbers(shift, m)
				checkInts(t, brief(mask)+brief(back)+brief(shifts), impl.ModImage(mask, back, shifts), modImageWant(mask, back, shifts))
			}
		}
	}
}

// sumOf adds residues place by place.
func sumOf(a []int64, b []int64) impl.IntsResult {
	var out impl.IntsResult
	for x := range a {
		out.List = append(out.List, (a[x]+b[x])%impl.Prime)
	}
	return out
}

// Images add up exactly: over the shifts, over two masks, over two backs.
func TestModImagesAddUp(t *testing.T) {
	chance := rand.New(rand.NewSource(84))
	for _, n := range []int{1, 2, 4, 8, 16, 32} {
		for range 20 {
			mask, more, back, shifts := someResidues(chance, n), someResidues(chance, n), someResidues(chance, n), someResidues(chance, 2+chance.Intn(11))
			whole := impl.ModImage(mask, back, shifts)
			cut := chance.Intn(len(shifts))
			checkInts(t, "the shifts in two parts", whole, sumOf(impl.ModImage(mask, back, shifts[:cut]).List, impl.ModImage(mask, back, shifts[cut:]).List))
			var both, moved []int64
			for i := range mask {
				both = append(both, mask[i]%impl.Prime+more[i]%impl.Prime)
			}
			for i, shift := range shifts {
				moved = append(moved, shift%1000000+int64(n)*(int64(i)-3))
				shifts[i] = shift % 1000000
			}
			checkInts(t, "two masks", impl.ModImage(both, back, shifts), sumOf(impl.ModImage(mask, back, shifts).List, impl.ModImage(more, back, shifts).List))
			checkInts(t, "two backs", impl.ModImage(back, both, shifts), sumOf(impl.ModImage(back, mask, shifts).List, impl.ModImage(back, more, shifts).List))
			checkInts(t, "shifted by whole lengths", impl.ModImage(mask, back, moved), impl.ModImage(mask, back, shifts))
		}
	}
}

// All places of an image together are n times the products of what stands at one place in mask and back.
func TestModImagesKeepTheirSum(t *testing.T) {
	chance := rand.New(rand.NewSource(85))
	for _, n := range []int{1, 2, 4, 8, 16, 32} {
		mask, back := make([]int64, n), make([]int64, n)
		want := int64(0)
		for i := range n {
			mask[i], back[i] = chance.Int63n(impl.Prime), chance.Int63n(impl.Prime)
			want = (want + mask[i]*back[i]%impl.Prime*int64(n)) % impl.Prime
		}
		sum := int64(0)
		for _, bright := range impl.ModImage(mask, back, numbers(chance.Int63())).List {
			sum = (sum + bright) % impl.Prime
		}
		if sum != want {
			t.Errorf("%d places have %d in all, want %d", n, sum, want)
		}
	}
}
