package impl

import "strconv"

const OK = 0
const ErrForm = 1
const ErrMany = 2
const ErrRange = 3
const ErrNone = 4
const ErrText = 5
const ErrZero = 6
const ErrTaken = 7
const MaxNum = 1000000000
const MaxText = 4000
const CoinPrime = 2147483647
const MaxCoins = 5000

const maxWide = 1000000000000000000
const maxDigits = 18
const maxFaces = 1000000
const coinFactor = 48271
const coinShare = 64

type Frac struct {
	Num int64
	Den int64
}
type FracResult struct {
	Code int64
	Frac Frac
}
type FracText struct {
	Code int64
	At   int64
	Frac Frac
}
type CoinResult struct {
	Code int64
	Next int64
	List []int64
}

// digitRun is a row of digits as it is read: the value stops at maxDigits, so it never overflows.
type digitRun struct {
	count int64
	value int64
}

// fracScan is what a text has told so far; no slash fits at 0, so 0 says that none was met.
type fracScan struct {
	minus  bool
	slash  int64
	top    digitRun
	bottom digitRun
}

// coinAsk is what a call of Coins asks for.
type coinAsk struct {
	seed int64
	n    int64
	most int64
}

func FracFault(f Frac) int64 {
	if !fracInBounds(f) || f != lowestTerms(f.Num, f.Den) {
		return ErrForm
	}
	return OK
}

func MakeFrac(num int64, den int64) FracResult {
	if num < -maxWide || num > maxWide || den < -maxWide || den > maxWide {
		return FracResult{Code: ErrRange}
	}
	if den == 0 {
		return FracResult{Code: ErrZero}
	}
	return rightQuotient(num, den)
}

func AddFrac(a Frac, b Frac) FracResult {
	if !bothRight(a, b) {
		return FracResult{Code: ErrForm}
	}
	return rightQuotient(a.Num*b.Den+b.Num*a.Den, a.Den*b.Den)
}

func SubFrac(a Frac, b Frac) FracResult {
	if !bothRight(a, b) {
		return FracResult{Code: ErrForm}
	}
	return rightQuotient(a.Num*b.Den-b.Num*a.Den, a.Den*b.Den)
}

func MulFrac(a Frac, b Frac) FracResult {
	if !bothRight(a, b) {
		return FracResult{Code: ErrForm}
	}
	return rightQuotient(a.Num*b.Num, a.Den*b.Den)
}

func DivFrac(a Frac, b Frac) FracResult {
	if !bothRight(a, b) {
		return FracResult{Code: ErrForm}
	}
	if b == (Frac{Num: 0, Den: 1}) {
		return FracResult{Code: ErrZero}
	}
	return rightQuotient(a.Num*b.Den, a.Den*b.Num)
}

func CompareFrac(a Frac, b Frac) int64 {
	if !bothRight(a, b) || a == b {
		return 0
	}
	if a.Num*b.Den < b.Num*a.Den {
		return -1
	}
	return 1
}

func RoundFrac(f Frac) int64 {
	if FracFault(f) != OK {
		return 0
	}
	return floorQuotient(2*f.Num+f.Den, 2*f.Den)
}

func FormatFrac(f Frac) string {
	if FracFault(f) != OK {
		return ""
	}
	text := strconv.FormatInt(f.Num, 10)
	if f.Den == 1 {
		return text
	}
	return text + "/" + strconv.FormatInt(f.Den, 10)
}

func ParseFrac(text string) FracText {
	if len(text) > MaxText {
		return FracText{Code: ErrMany}
	}
	scan, at, fits := scanFrac(text)
	if !fits {
		return FracText{Code: ErrText, At: at}
	}
	if scan.top.count > maxDigits || scan.bottom.count > maxDigits {
		return FracText{Code: ErrRange}
	}
	if scan.slash > 0 && scan.bottom.value == 0 {
		return FracText{Code: ErrZero, At: scan.slash}
	}
	made := rightQuotient(scan.numerator(), scan.denominator())
	return FracText{Code: made.Code, Frac: made.Frac}
}

func Coins(seed int64, n int64, most int64) CoinResult {
	ask := coinAsk{seed: seed, n: n, most: most}
	if ask != ask.within() {
		return CoinResult{Code: ErrForm}
	}
	list := make([]int64, 0, n)
	for range n {
		seed = seed * coinFactor % CoinPrime
		list = append(list, seed/coinShare%most)
	}
	return CoinResult{Next: seed, List: list}
}

func fracInBounds(f Frac) bool {
	return f.Den >= 1 && f.Den <= MaxNum && f.Num >= -MaxNum && f.Num <= MaxNum
}

func bothRight(a Frac, b Frac) bool {
	return FracFault(a) == OK && FracFault(b) == OK
}

// rightQuotient wants a den that is not 0; neither number may be the least int64, which has no opposite.
func rightQuotient(num int64, den int64) FracResult {
	f := lowestTerms(num, den)
	if !fracInBounds(f) {
		return FracResult{Code: ErrRange}
	}
	return FracResult{Frac: f}
}

func lowestTerms(num int64, den int64) Frac {
	if den < 0 {
		num, den = -num, -den
	}
	common := greatestDivisor(sizeOf(num), den)
	return Frac{Num: num / common, Den: den / common}
}

func sizeOf(n int64) int64 {
	if n < 0 {
		return -n
	}
	return n
}

func greatestDivisor(a int64, b int64) int64 {
	for b != 0 {
		a, b = b, a%b
	}
	return a
}

// floorQuotient wants a den above 0; Go's own quotient is rounded towards 0.
func floorQuotient(num int64, den int64) int64 {
	whole := num / den
	if num%den < 0 {
		return whole - 1
	}
	return whole
}

// scanFrac tells the place of the first byte that does not fit, or the text's length where one is missing.
func scanFrac(text string) (fracScan, int64, bool) {
	scan := fracScan{}
	for i, r := range text {
		next, fits := scan.take(int64(i), r)
		if !fits {
			return fracScan{}, int64(i), false
		}
		scan = next
	}
	if !scan.complete() {
		return fracScan{}, int64(len(text)), false
	}
	return scan, 0, true
}

func (s fracScan) take(at int64, r rune) (fracScan, bool) {
	switch {
	case r >= '0' && r <= '9':
		return s.withDigit(int64(r - '0')), true
	case r == '-' && at == 0:
		s.minus = true
		return s, true
	case r == '/' && s.slash == 0 && s.top.count > 0:
		s.slash = at
		return s, true
	}
	return s, false
}

func (s fracScan) withDigit(digit int64) fracScan {
	if s.slash > 0 {
		s.bottom = s.bottom.with(digit)
	} else {
		s.top = s.top.with(digit)
	}
	return s
}

func (s fracScan) complete() bool {
	return s.top.count > 0 && (s.slash == 0 || s.bottom.count > 0)
}

func (s fracScan) numerator() int64 {
	if s.minus {
		return -s.top.value
	}
	return s.top.value
}

func (s fracScan) denominator() int64 {
	if s.slash == 0 {
		return 1
	}
	return s.bottom.value
}

func (d digitRun) with(digit int64) digitRun {
	d.count++
	if d.count <= maxDigits {
		d.value = d.value*10 + digit
	}
	return d
}

// within puts each number into its bounds: an ask that it changes was not right.
func (a coinAsk) within() coinAsk {
	return coinAsk{
		seed: clampTo(a.seed, 1, CoinPrime-1),
		n:    clampTo(a.n, 0, MaxCoins),
		most: clampTo(a.most, 1, maxFaces),
	}
}

func clampTo(n int64, least int64, most int64) int64 {
	if n < least {
		return least
	}
	if n > most {
		return most
	}
	return n
}
