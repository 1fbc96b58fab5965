package tests

import (
	"math"
	"math/rand"
	"testing"

	"loop.example/g00057/impl"
)

// checkPackedAndUnpacked asks for both ways round.
func checkPackedAndUnpacked(t *testing.T, what string, list []float64, b ...byte) {
	t.Helper()
	checkPacked(t, what, list, bytesOf(b...))
	checkUnpacked(t, what, b, floats(list...))
}

func TestPackTraceByHand(t *testing.T) {
	one := []byte{0x80, 0x80, 0x80, 0x80, 0x80, 0x80, 0x80, 0xF8, 0x3F}
	sign := []byte{0x80, 0x80, 0x80, 0x80, 0x80, 0x80, 0x80, 0x80, 0x80, 0x01}
	checkPackedAndUnpacked(t, "no number", nil)
	checkPackedAndUnpacked(t, "0", reading(0), 0)
	checkPackedAndUnpacked(t, "0 twice", reading(0, 0), 0, 0)
	checkPackedAndUnpacked(t, "-0", reading(minus0), sign...)
	checkPackedAndUnpacked(t, "-0 twice", reading(minus0, minus0), append(sign[:10:10], 0)...)
	checkPackedAndUnpacked(t, "0 and -0, by turns", reading(0, minus0, 0), append(append([]byte{0}, sign...), sign...)...)
	checkPackedAndUnpacked(t, "1", reading(1), one...)
	checkPackedAndUnpacked(t, "1 twice", reading(1, 1), append(one[:9:9], 0)...)
	checkPackedAndUnpacked(t, "1 and 0", reading(1, 0), append(one[:9:9], one...)...)
	checkPackedAndUnpacked(t, "1 and -1", reading(1, -1), append(one[:9:9], sign...)...)
	checkPackedAndUnpacked(t, "the least subnormal", reading(leastSubnormal), 1)
	checkPackedAndUnpacked(t, "the least two, and the first again", reading(leastSubnormal, 2*leastSubnormal, leastSubnormal), 1, 3, 3)
	checkPackedAndUnpacked(t, "127 of the least", reading(127*leastSubnormal), 0x7F)
	checkPackedAndUnpacked(t, "128 of the least", reading(128*leastSubnormal), 0x80, 0x01)
	checkPackedAndUnpacked(t, "129 of the least", reading(129*leastSubnormal), 0x81, 0x01)
	checkPackedAndUnpacked(t, "2^14 less 1 of the least", reading(16383*leastSubnormal), 0xFF, 0x7F)
	checkPackedAndUnpacked(t, "2^14 of the least", reading(16384*leastSubnormal), 0x80, 0x80, 0x01)
	checkPackedAndUnpacked(t, "the greatest subnormal", reading(greatestSubnormal), 0xFF, 0xFF, 0xFF, 0xFF, 0xFF, 0xFF, 0xFF, 0x07)
	checkPackedAndUnpacked(t, "the least normal", reading(leastNormal), 0x80, 0x80, 0x80, 0x80, 0x80, 0x80, 0x80, 0x08)
	checkPackedAndUnpacked(t, "infinite", reading(inf), 0x80, 0x80, 0x80, 0x80, 0x80, 0x80, 0x80, 0xF8, 0x7F)
	checkPackedAndUnpacked(t, "infinite, below 0", reading(-inf), 0x80, 0x80, 0x80, 0x80, 0x80, 0x80, 0x80, 0xF8, 0xFF, 0x01)
	checkPackedAndUnpacked(t, "infinite, then below 0", reading(inf, -inf), append([]byte{0x80, 0x80, 0x80, 0x80, 0x80, 0x80, 0x80, 0xF8, 0x7F}, sign...)...)
	checkPackedAndUnpacked(t, "NaN", reading(nan), 0x80, 0x80, 0x80, 0x80, 0x80, 0x80, 0x80, 0xFC, 0x7F)
	checkPackedAndUnpacked(t, "NaN twice", reading(nan, nan), 0x80, 0x80, 0x80, 0x80, 0x80, 0x80, 0x80, 0xFC, 0x7F, 0)
	checkPackedAndUnpacked(t, "the greatest", reading(mostFloat), 0xFF, 0xFF, 0xFF, 0xFF, 0xFF, 0xFF, 0xFF, 0xF7, 0x7F)
	checkPackedAndUnpacked(t, "the least of all", reading(-mostFloat), 0xFF, 0xFF, 0xFF, 0xFF, 0xFF, 0xFF, 0xFF, 0xF7, 0xFF, 0x01)
}

// All NaNs are one: whatever bits one has, its bytes are those of BitsOf.
func TestPackTraceOfEveryNaN(t *testing.T) {
	bytes := bytesOf(0x80, 0x80, 0x80, 0x80, 0x80, 0x80, 0x80, 0xFC, 0x7F)
	twice := bytesOf(append(bytes.Bytes[:9:9], 0)...)
	for _, bits := range bitsOfNaN() {
		f := math.Float64frombits(bits)
		checkPacked(t, "a NaN", reading(f), bytes)
		checkPacked(t, "two of them", reading(f, nan), twice)
		checkPacked(t, "two of them", reading(nan, f), twice)
		if bits == nanBits {
			continue
		}
		// Nothing is told so: these bytes have a NaN's bits, but not those of BitsOf.
		checkUnpacked(t, "a NaN's own bits", bitsPacked(bits), floatsCode(impl.ErrText))
		checkUnpacked(t, "a NaN's own bits, behind another", append([]byte{0x80, 0x80, 0x80, 0x80, 0x80, 0x80, 0x80, 0xFC, 0x7F}, bitsPacked(bits^nanBits)...), floatsCode(impl.ErrText))
	}
}

func TestPackTraceOfManyNumbers(t *testing.T) {
	for n := 198; n <= 203; n++ {
		for _, f := range reading(0, 1, minus0, nan, -inf, mostFloat) {
			list := longer(reading(f), n)
			if n > 200 {
				checkPacked(t, "too many", list, bytesCode(impl.ErrMany))
				continue
			}
			checkPackedAndUnpacked(t, "many", list, packWant(list).Bytes...)
		}
		by := longer(reading(inf, minus0), n)
		if n <= 200 {
			checkPackedAndUnpacked(t, "many by turns", by, packWant(by).Bytes...)
		}
	}
	checkPacked(t, "far too many", make([]float64, 100000), bytesCode(impl.ErrMany))
}

func TestUnpackTraceOfManyNumbers(t *testing.T) {
	for n := 198; n <= 203; n++ {
		want := floats(make([]float64, n)...)
		if n > 200 {
			want = floatsCode(impl.ErrText)
		}
		checkUnpacked(t, "many noughts", make([]byte, n), want)
		checkUnpacked(t, "many noughts, and the first byte of another", append(make([]byte, n), 0x80), floatsCode(impl.ErrText))
		if n > 200 {
			most := packWant(longer(reading(inf, minus0), 200)).Bytes
			checkUnpacked(t, "one more, or some", append(most, make([]byte, n-200)...), floatsCode(impl.ErrText))
		}
	}
	for _, n := range []int{3000, 1000000} {
		for _, fill := range []byte{0, 0x80, 0xFF} {
			long := longer([]byte{fill}, n)
			checkFloats(t, "far too many, or one that is far too long", impl.UnpackTrace(long), floatsCode(impl.ErrText))
			checkFloats(t, "far too many, then an end", impl.UnpackTrace(append(long, 1)), floatsCode(impl.ErrText))
		}
	}
}

func TestUnpackTraceOfBytesThatEndWithinANumber(t *testing.T) {
	for _, list := range [][]float64{reading(1), reading(-1), reading(0, minus0), reading(1, 1, -1), hardFloats()} {
		b := packWant(list).Bytes
		whole := 0
		for n := range len(b) {
			want := floatsCode(impl.ErrText)
			if n == 0 || b[n-1] < 128 {
				want = floats(list[:whole]...)
			}
			checkUnpacked(t, "cut", b[:n], want)
			if b[n] < 128 {
				whole++
			}
			if want.Code == impl.OK {
				for _, more := range []byte{0x80, 0x81, 0xFF} {
					checkUnpacked(t, "one byte more", append(b[:n:n], more), floatsCode(impl.ErrText))
				}
			}
		}
	}
}

// A number in more bytes than it needs is none.
func TestUnpackTraceOfBytesThatCouldBeFewer(t *testing.T) {
	for _, list := range [][]float64{reading(0), reading(leastSubnormal), reading(1), reading(nan), reading(minus0), reading(3, 3, 4)} {
		b := packWant(list).Bytes
		last := len(b) - 1
		for more := range 12 {
			wasteful := append(b[:last:last], b[last]|0x80)
			for range more {
				wasteful = append(wasteful, 0x80)
			}
			wasteful = append(wasteful, 0)
			checkUnpacked(t, "noughts behind", wasteful, floatsCode(impl.ErrText))
			checkUnpacked(t, "noughts behind, another number", append(wasteful, 0), floatsCode(impl.ErrText))
			checkUnpacked(t, "noughts behind, ahead of all", append(wasteful, b...), floatsCode(impl.ErrText))
		}
	}
	for _, b := range [][]byte{{0x80, 0}, {0x81, 0}, {0xFF, 0}, {0x80, 0x80, 0}, {0x80, 0x81, 0}, {0, 0x80, 0}, {0x80, 0, 1}, {1, 0xFF, 0x80, 0}} {
		checkUnpacked(t, "noughts behind", b, floatsCode(impl.ErrText))
	}
}

// The tenth byte of a number has its last bit: more than one it cannot have, and an eleventh there is none.
func TestUnpackTraceOfTenBytes(t *testing.T) {
	for _, ahead := range []byte{0x80, 0x81, 0xFF, 0xC0} {
		nine := longer([]byte{ahead}, 9)
		for n := range 256 {
			b := append(nine[:9:9], byte(n))
			want := floatsCode(impl.ErrText)
			if n == 1 {
				want = unpackWant(b)
			}
			checkUnpacked(t, "ten bytes", b, want)
			for _, last := range []byte{0, 1, 2, 0x7F} {
				checkUnpacked(t, "eleven bytes", append(nine[:9:9], byte(n)|0x80, last), floatsCode(impl.ErrText))
			}
		}
	}
	checkUnpacked(t, "the last bit alone", append(longer([]byte{0x80}, 9), 1), floats(minus0))
	checkUnpacked(t, "the last bit, and one beyond", append(longer([]byte{0x80}, 9), 3), floatsCode(impl.ErrText))
	checkUnpacked(t, "one beyond", append(longer([]byte{0x80}, 9), 2), floatsCode(impl.ErrText))
	checkUnpacked(t, "all 64 bits are no number of BitsOf", append(longer([]byte{0xFF}, 9), 1), floatsCode(impl.ErrText))
}

// All texts of up to two bytes, and each byte ahead of and behind a number.
func TestUnpackTraceOfEachByte(t *testing.T) {
	one := packWant(reading(1)).Bytes
	for n := range 256 {
		checkUnpacked(t, "a byte", []byte{byte(n)}, unpackWant([]byte{byte(n)}))
		checkUnpacked(t, "a byte ahead", append([]byte{byte(n)}, one...), unpackWant(append([]byte{byte(n)}, one...)))
		checkUnpacked(t, "a byte behind", append(one[:9:9], byte(n)), unpackWant(append(one[:9:9], byte(n))))
		for m := range 256 {
			checkUnpacked(t, "two bytes", []byte{byte(n), byte(m)}, unpackWant([]byte{byte(n), byte(m)}))
		}
	}
}

// someTrace has numbers that are near one another, equal neighbours, and any.
func someTrace(chance *rand.Rand, n int) []float64 {
	var list []float64
	for i := range n {
		number := someFloat(chance)
		if hard := hardFloats(); chance.Intn(3) == 0 {
			number = hard[chance.Intn(len(hard))]
		}
		if i > 0 && chance.Intn(3) == 0 {
			number = math.Float64frombits(math.Float64bits(list[i-1]) ^ uint64(chance.Intn(300)))
		}
		list = append(list, number)
	}
	return list
}

// A trace is got back from its bytes, bit by bit.
func TestTracesAreGotBack(t *testing.T) {
	chance := rand.New(rand.NewSource(309))
	for range 1500 {
		list := someTrace(chance, chance.Intn(numbersOf(6, 40, 201)[chance.Intn(3)]))
		packed := impl.PackTrace(list)
		checkPackedAndUnpacked(t, "some trace", list, packed.Bytes...)
		for i, number := range impl.UnpackTrace(packed.Bytes).List {
			if impl.BitsOf(number) != impl.BitsOf(list[i]) {
				t.Fatalf("%x comes back as %x", list[i], number)
			}
		}
	}
	for _, bits := range someBits() {
		f := math.Float64frombits(bits)
		if got := impl.UnpackTrace(impl.PackTrace(reading(f)).Bytes); got.Code != impl.OK || len(got.List) != 1 || !sameFloat(got.List[0], f) {
			t.Fatalf("%016X comes back as %s", bits, brief(got))
		}
	}
}

// Bytes that are read are those of what they tell; all others are none.
func TestSomePackedBytes(t *testing.T) {
	chance, read := rand.New(rand.NewSource(310)), 0
	for i := range 30000 {
		b := packWant(someTrace(chance, chance.Intn(5))).Bytes
		switch i % 4 {
		case 1:
			b = someBytes(chance, chance.Intn(8))
		case 2:
			for j := range b {
				if chance.Intn(8) == 0 {
					b[j] ^= 1 << chance.Intn(8)
				}
			}
		case 3:
			at := chance.Intn(len(b) + 1)
			b = append(b[:at:at], append([]byte{byte(chance.Intn(256))}, b[at:]...)...)
		}
		want := unpackWant(b)
		checkUnpacked(t, "some bytes", b, want)
		if want.Code == impl.OK && len(b) > 0 {
			read++
			checkPacked(t, "bytes that are read", want.List, bytesOf(b...))
		}
	}
	if read < 8000 || read > 25000 {
		t.Errorf("%d of 30000 are read", read)
	}
}
