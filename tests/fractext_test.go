package tests

import (
	"math/big"
	"regexp"
	"strings"
	"testing"

	"loop.example/g00057/impl"
)

func TestFormatFrac(t *testing.T) {
	cases := []struct {
		f    impl.Frac
		want string
	}{
		{impl.Frac{Num: 0, Den: 1}, "0"},
		{impl.Frac{Num: 5, Den: 1}, "5"},
		{impl.Frac{Num: -5, Den: 1}, "-5"},
		{impl.Frac{Num: 5, Den: 6}, "5/6"},
		{impl.Frac{Num: -3, Den: 2}, "-3/2"},
		{impl.Frac{Num: impl.MaxNum, Den: 1}, "1000000000"},
		{impl.Frac{Num: -impl.MaxNum, Den: impl.MaxNum - 1}, "-1000000000/999999999"},
		{impl.Frac{Num: 1, Den: impl.MaxNum}, "1/1000000000"},
	}
	for _, c := range cases {
		if got := impl.FormatFrac(c.f); got != c.want {
			t.Errorf("FormatFrac(%v) = %q, want %q", c.f, got, c.want)
		}
	}
	for _, f := range wrongFracs() {
		if got := impl.FormatFrac(f); got != "" {
			t.Errorf("FormatFrac(%v) = %q, want the empty text", f, got)
		}
	}
}

func TestTextsAreReadBack(t *testing.T) {
	for _, f := range append(append(rightFracs(), smallFracs()...), someRightFracs(500)...) {
		if got := impl.ParseFrac(impl.FormatFrac(f)); got != (impl.FracText{Frac: f}) {
			t.Errorf("%v is read back from %q as %v", f, impl.FormatFrac(f), got)
		}
	}
}

type parseCase struct {
	text string
	want impl.FracText
}

func checkParse(t *testing.T, cases []parseCase) {
	t.Helper()
	for _, c := range cases {
		if got := impl.ParseFrac(c.text); got != c.want {
			t.Errorf("ParseFrac(%.60q) of %d bytes = %v, want %v", c.text, len(c.text), got, c.want)
		}
	}
}

func parsed(num, den int64) impl.FracText {
	return impl.FracText{Frac: impl.Frac{Num: num, Den: den}}
}

func failed(code, at int64) impl.FracText {
	return impl.FracText{Code: code, At: at}
}

func TestParseFracOfNumbers(t *testing.T) {
	nines, noughts := strings.Repeat("9", 18), strings.Repeat("0", 17)
	checkParse(t, []parseCase{
		{"0", parsed(0, 1)}, {"-0", parsed(0, 1)}, {"0/5", parsed(0, 1)}, {"-0/5", parsed(0, 1)},
		{"7", parsed(7, 1)}, {"-7", parsed(-7, 1)}, {"-6/4", parsed(-3, 2)}, {"6/4", parsed(3, 2)}, {"4/2", parsed(2, 1)},
		{"007", parsed(7, 1)}, {"-0006/0004", parsed(-3, 2)}, {noughts + "7", parsed(7, 1)}, {noughts + "7/" + noughts + "2", parsed(7, 2)},
		{"1000000000", parsed(impl.MaxNum, 1)}, {"-1000000000", parsed(-impl.MaxNum, 1)}, {"1/1000000000", parsed(1, impl.MaxNum)},
		{nines + "/" + nines, parsed(1, 1)}, {"-" + nines + "/" + nines, parsed(-1, 1)},
		{"999999999000000000/999999999", parsed(impl.MaxNum, 1)}, {"999999999/999999999000000000", parsed(1, impl.MaxNum)},
	})
}

func TestParseFracOfTextsThatDoNotFit(t *testing.T) {
	const code = impl.ErrText
	checkParse(t, []parseCase{
		{"", failed(code, 0)}, {"-", failed(code, 1)}, {"1/", failed(code, 2)}, {"-12/", failed(code, 4)},
		{"/", failed(code, 0)}, {"/2", failed(code, 0)}, {"-/2", failed(code, 1)}, {"--1", failed(code, 1)}, {"+1", failed(code, 0)},
		{"6/-4", failed(code, 2)}, {"6//4", failed(code, 2)}, {"6/4/", failed(code, 3)}, {"6/4/2", failed(code, 3)},
		{"6-4", failed(code, 1)}, {"6/4-", failed(code, 3)}, {" 1", failed(code, 0)}, {"1 ", failed(code, 1)}, {"1 /2", failed(code, 1)},
		{"1/ 2", failed(code, 2)}, {"1.5", failed(code, 1)}, {"1e3", failed(code, 1)}, {"1_0", failed(code, 1)}, {"0x1", failed(code, 1)},
		{"1\n", failed(code, 1)}, {"\x00", failed(code, 0)}, {"12\x00", failed(code, 2)}, {"a", failed(code, 0)}, {":", failed(code, 0)},
		{"é", failed(code, 0)}, {"1é", failed(code, 1)}, {"1/é", failed(code, 2)}, {"1/2é3", failed(code, 3)}, {"-é", failed(code, 1)},
		{"٣", failed(code, 0)}, {"1٣", failed(code, 1)}, {"１", failed(code, 0)}, {"−1", failed(code, 0)}, {"1⁄2", failed(code, 1)}, {"½", failed(code, 0)},
		{"\xff", failed(code, 0)}, {"1\xff", failed(code, 1)}, {"1/\x80", failed(code, 2)}, {"1/2\xc3", failed(code, 3)}, {"\xef\xbf\xbd", failed(code, 0)},
		{"\xb0", failed(code, 0)}, {"1\U00010030", failed(code, 1)}, {"1\U0001F600", failed(code, 1)},
	})
}

func TestParseFracOfNumbersTooGreat(t *testing.T) {
	const code = impl.ErrRange
	nines, noughts := strings.Repeat("9", 18), strings.Repeat("0", 18)
	checkParse(t, []parseCase{
		{nines, failed(code, 0)}, {"1/" + nines, failed(code, 0)}, {"-" + nines, failed(code, 0)},
		{"1000000001", failed(code, 0)}, {"-1000000001", failed(code, 0)}, {"1/1000000001", failed(code, 0)}, {"2000000002/2", failed(code, 0)},
		{"9" + nines, failed(code, 0)}, {"1/9" + nines, failed(code, 0)}, {"9" + nines + "/9" + nines, failed(code, 0)},
		{"9223372036854775808", failed(code, 0)}, {"18446744073709551617", failed(code, 0)},
		{noughts + "1", failed(code, 0)}, {"-" + noughts + "1", failed(code, 0)}, {"1/" + noughts + "1", failed(code, 0)},
		{"0" + noughts, failed(code, 0)}, {"0" + noughts + "/1", failed(code, 0)},
	})
}

// Digits are counted ahead of the question whether they are all noughts; bytes that do not fit are told ahead of both.
func TestParseFracInOrder(t *testing.T) {
	noughts := strings.Repeat("0", 18)
	checkParse(t, []parseCase{
		{"1/0", failed(impl.ErrZero, 1)}, {"-12/000", failed(impl.ErrZero, 3)}, {"0/0", failed(impl.ErrZero, 1)},
		{"1/" + noughts, failed(impl.ErrZero, 1)}, {"1/0" + noughts, failed(impl.ErrRange, 0)},
		{noughts + "/" + noughts, failed(impl.ErrZero, 18)}, {"-" + noughts + "/" + noughts, failed(impl.ErrZero, 19)},
		{noughts + "1/0", failed(impl.ErrRange, 0)}, {"999999999999999999/0", failed(impl.ErrZero, 18)},
		{noughts + "1/0x", failed(impl.ErrText, 21)}, {noughts + "1/", failed(impl.ErrText, 20)}, {"1/0x", failed(impl.ErrText, 3)},
		{"1/0" + noughts + "/", failed(impl.ErrText, 21)},
	})
}

func TestParseFracOfLongTexts(t *testing.T) {
	most := impl.MaxText
	digits := strings.Repeat("1", most)
	checkParse(t, []parseCase{
		{digits, failed(impl.ErrRange, 0)}, {digits + "1", failed(impl.ErrMany, 0)},
		{"-" + digits[1:], failed(impl.ErrRange, 0)}, {"-" + digits, failed(impl.ErrMany, 0)},
		{"1/" + strings.Repeat("0", most-2), failed(impl.ErrRange, 0)}, {"1/" + strings.Repeat("0", most-1), failed(impl.ErrMany, 0)},
		{digits[1:] + "x", failed(impl.ErrText, impl.MaxText-1)}, {digits + "x", failed(impl.ErrMany, 0)},
		{digits[1:] + "/", failed(impl.ErrText, impl.MaxText)}, {"x" + digits[1:], failed(impl.ErrText, 0)}, {"x" + digits, failed(impl.ErrMany, 0)},
		{strings.Repeat("é", most/2), failed(impl.ErrText, 0)}, {strings.Repeat("é", most/2) + "x", failed(impl.ErrMany, 0)},
	})
}

var begunText = regexp.MustCompile(`\A-?([0-9]+(/[0-9]*)?)?\z`)
var wholeText = regexp.MustCompile(`\A(-?[0-9]+)(/([0-9]+))?\z`)

// parseWant reads a text by its beginnings: the first that no right text begins with ends in the byte that does not fit.
func parseWant(text string) impl.FracText {
	for i := range len(text) {
		if !begunText.MatchString(text[:i+1]) {
			return failed(impl.ErrText, int64(i))
		}
	}
	part := wholeText.FindStringSubmatch(text)
	if part == nil {
		return failed(impl.ErrText, int64(len(text)))
	}
	if len(strings.TrimPrefix(part[1], "-")) > 18 || len(part[3]) > 18 {
		return failed(impl.ErrRange, 0)
	}
	if part[2] != "" && strings.Trim(part[3], "0") == "" {
		return failed(impl.ErrZero, int64(strings.Index(text, "/")))
	}
	num, _ := new(big.Int).SetString(part[1], 10)
	den := big.NewInt(1)
	if part[2] != "" {
		den.SetString(part[3], 10)
	}
	want := answerOf(new(big.Rat).SetFrac(num, den))
	return impl.FracText{Code: want.Code, Frac: want.Frac}
}

func TestParseFracOfAllShortTexts(t *testing.T) {
	texts := []string{""}
	for range 6 {
		for _, text := range texts {
			checkParse(t, []parseCase{{text, parseWant(text)}})
		}
		var longer []string
		for _, text := range texts {
			for _, piece := range []string{"-", "/", "0", "1", "6", "x", "é"} {
				longer = append(longer, text+piece)
			}
		}
		texts = longer
	}
}

func TestParseFracOfEveryByte(t *testing.T) {
	for b := range 256 {
		for _, ahead := range []string{"", "-", "12", "12/", "-12/3"} {
			text := ahead + string([]byte{byte(b)}) + "4"
			checkParse(t, []parseCase{{text, parseWant(text)}})
		}
	}
}

func TestParseFracOfAllLengths(t *testing.T) {
	for top := range 21 {
		for bottom := range 21 {
			for _, digit := range []string{"0", "1", "9"} {
				text := strings.Repeat(digit, top) + "/" + strings.Repeat(digit, bottom)
				checkParse(t, []parseCase{{text, parseWant(text)}, {"-" + text, parseWant("-" + text)}})
			}
		}
	}
}
