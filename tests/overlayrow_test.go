package tests

import (
	"math/big"
	"math/rand"
	"slices"
	"testing"

	"loop.example/g00057/impl"
)

// rowCase is what SolveRows is given, and what it answers.
type rowCase struct {
	name  string
	rows  [][]impl.Frac
	right []impl.Frac
	want  impl.LinesFit
}

func copyRows(rows [][]impl.Frac) [][]impl.Frac {
	var out [][]impl.Frac
	for _, row := range rows {
		out = append(out, slices.Clone(row))
	}
	return out
}

func checkSolve(t *testing.T, what string, rows [][]impl.Frac, right []impl.Frac, want impl.LinesFit) {
	t.Helper()
	keptRows, keptRight := copyRows(rows), slices.Clone(right)
	if got := impl.SolveRows(rows, right); !sameSolved(got, want) {
		t.Errorf("%s, %s, %s: %v, want %v", what, brief(rows), brief(right), got, want)
	}
	if got := solveWant(rows, right); !sameSolved(got, want) {
		t.Errorf("%s, %s, %s, plainly: %v, want %v", what, brief(rows), brief(right), got, want)
	}
	if !slices.EqualFunc(rows, keptRows, slices.Equal[[]impl.Frac]) || !slices.Equal(right, keptRight) {
		t.Errorf("%s: the rows are now %v, and right is %v", what, rows, right)
	}
}

func checkRowCases(t *testing.T, list []rowCase) {
	t.Helper()
	for _, c := range list {
		checkSolve(t, c.name, c.rows, c.right, c.want)
	}
}

// unitRows are n rows with 1 in the diagonal.
func unitRows(n int) [][]impl.Frac {
	var rows [][]impl.Frac
	for i := range n {
		row := slices.Repeat(asFracs(0), n)
		row[i] = asFrac(1)
		rows = append(rows, row)
	}
	return rows
}

func TestSolveRowsByHand(t *testing.T) {
	half := ratio(1, 2)
	checkRowCases(t, []rowCase{
		{"one", equations(asFracs(2)), asFracs(3), solved(ratio(3, 2))},
		{"one, below 0", equations(fracs(ratio(-2, 3))), asFracs(4), solved(asFrac(-6))},
		{"one, nothing on the right", equations(asFracs(5)), asFracs(0), solved(asFrac(0))},
		{"two", equations(asFracs(1, 2), asFracs(3, 4)), asFracs(5, 6), solved(asFrac(-4), ratio(9, 2))},
		{"two, in parts", equations(fracs(half, ratio(1, 3)), fracs(ratio(1, 4), ratio(-1, 5))), asFracs(1, 2), solved(ratio(52, 11), ratio(-45, 11))},
		{"three", equations(asFracs(2, 1, -1), asFracs(-3, -1, 2), asFracs(-2, 1, 2)), asFracs(8, -11, -3), solved(asFracs(2, 3, -1)...)},
		{"four", equations(asFracs(1, 1, 1, 1), asFracs(1, 2, 4, 8), asFracs(1, 3, 9, 27), asFracs(1, 4, 16, 64)), asFracs(10, 49, 142, 313), solved(asFracs(1, 2, 3, 4)...)},
		{"the unit rows", unitRows(4), asFracs(9, 8, 7, 6), solved(asFracs(9, 8, 7, 6)...)},

		{"a nought, then the next row", equations(asFracs(0, 1), asFracs(1, 0)), asFracs(2, 3), solved(asFracs(3, 2)...)},
		{"a nought, then the next row of three", equations(asFracs(0, 2, 1), asFracs(1, 0, 0), asFracs(5, 0, 1)), asFracs(7, 1, 8), solved(asFracs(1, 2, 3)...)},
		{"noughts, then the last row", equations(asFracs(0, 0, 1), asFracs(0, 1, 0), asFracs(1, 0, 0)), asFracs(1, 2, 3), solved(asFracs(3, 2, 1)...)},
		{"noughts, then the last row of four", equations(asFracs(0, 1, 0, 0), asFracs(0, 0, 1, 0), asFracs(0, 0, 0, 1), asFracs(1, 0, 0, 0)), asFracs(1, 2, 3, 4), solved(asFracs(4, 1, 2, 3)...)},
		{"a nought in the second column", equations(asFracs(1, 1, 1), asFracs(1, 1, 2), asFracs(1, 2, 1)), asFracs(6, 9, 8), solved(asFracs(1, 2, 3)...)},
		{"a nought in the last column but one", equations(asFracs(1, 0, 0, 0), asFracs(0, 1, 0, 0), asFracs(0, 0, 0, 2), asFracs(0, 0, 3, 0)), asFracs(1, 2, 8, 9), solved(asFracs(1, 2, 3, 4)...)},
		{"the first row is taken where it can be", equations(asFracs(1, 1), asFracs(1000, 1)), asFracs(3, 1002), solved(asFracs(1, 2)...)},

		{"nothing", equations(asFracs(0)), asFracs(0), solvedCode(impl.ErrNone)},
		{"nothing that is something", equations(asFracs(0)), asFracs(1), solvedCode(impl.ErrNone)},
		{"none in the first column", equations(asFracs(0, 1), asFracs(0, 2)), asFracs(1, 2), solvedCode(impl.ErrNone)},
		{"none in the first column of four", equations(asFracs(0, 1, 0, 0), asFracs(0, 0, 1, 0), asFracs(0, 0, 0, 1), asFracs(0, 1, 1, 1)), asFracs(1, 1, 1, 3), solvedCode(impl.ErrNone)},
		{"none in the second column", equations(asFracs(1, 1, 0), asFracs(2, 2, 1), asFracs(3, 3, 5)), asFracs(1, 1, 1), solvedCode(impl.ErrNone)},
		{"none in the second column but above", equations(asFracs(1, 1, 1), asFracs(0, 0, 1), asFracs(0, 0, 2)), asFracs(1, 1, 1), solvedCode(impl.ErrNone)},
		{"none in the last column", equations(asFracs(1, 2), asFracs(2, 4)), asFracs(1, 1), solvedCode(impl.ErrNone)},
		{"none in the last column, and many meet them", equations(asFracs(1, 2), asFracs(2, 4)), asFracs(1, 2), solvedCode(impl.ErrNone)},
		{"none in the last column of four", equations(asFracs(1, 0, 0, 1), asFracs(0, 1, 0, 1), asFracs(0, 0, 1, 1), asFracs(1, 1, 1, 3)), asFracs(1, 1, 1, 9), solvedCode(impl.ErrNone)},
		{"twice the same row", equations(asFracs(1, 2, 3), asFracs(4, 5, 6), asFracs(1, 2, 3)), asFracs(1, 2, 1), solvedCode(impl.ErrNone)},
	})
}

// The order of what is done is told by which of it leaves the bounds.
func TestSolveRowsOnTheWay(t *testing.T) {
	const most, root = impl.MaxNum, 31623
	half := ratio(1, 2)
	beyond := solvedCode(impl.ErrRange)
	checkRowCases(t, []rowCase{
		{"the quotient of two rows", equations(fracs(half, asFrac(0)), asFracs(most, 1)), asFracs(0, 0), beyond},
		{"their quotient is too small", equations(asFracs(most, 0), fracs(half, asFrac(1))), asFracs(0, 0), beyond},
		{"the product", equations(asFracs(1, root), asFracs(root, 0)), asFracs(0, 0), beyond},
		{"the product just fits", equations(asFracs(1, root-1), asFracs(root-1, 0)), asFracs(0, 0), solved(asFracs(0, 0)...)},
		{"the difference", equations(asFracs(1, -1), asFracs(1, most)), asFracs(0, 0), beyond},
		{"the difference just fits", equations(asFracs(1, -1), asFracs(1, most-1)), asFracs(0, 0), solved(asFracs(0, 0)...)},
		{"the difference is too small", equations(fracs(asFrac(1), ratio(1, root)), fracs(asFrac(1), ratio(1, root+2))), asFracs(0, 0), beyond},
		{"the product on the right", equations(asFracs(1, 0), asFracs(root, 1)), asFracs(root, 0), beyond},
		{"the difference on the right", equations(asFracs(1, 0), asFracs(1, 1)), asFracs(-1, most), beyond},
		{"the difference on the right just fits", equations(asFracs(1, 0), asFracs(1, 1)), asFracs(-1, most-1), solved(asFracs(-1, most)...)},
		{"the last quotient", equations(fracs(half)), asFracs(most), beyond},
		{"the last quotient is too small", equations(asFracs(most)), fracs(half), beyond},
		{"the last quotient just fits", equations(fracs(half)), asFracs(most / 2), solved(asFrac(most))},
		{"the last quotient of the first row", equations(fracs(half, asFrac(0)), asFracs(0, 1)), asFracs(most, 1), beyond},
		{"the last quotient of the last row", equations(asFracs(1, 0), fracs(asFrac(0), half)), asFracs(1, most), beyond},
		{"the rows ahead are changed, too", equations(asFracs(1, most), fracs(asFrac(0), half)), asFracs(0, 0), beyond},
		{"no row is divided ahead of the end", equations(fracs(half, asFrac(most)), asFracs(0, 1)), asFracs(0, 0), solved(asFracs(0, 0)...)},
		{"the quotient is ahead of the product", equations(asFracs(root, root), asFracs(root, 1)), asFracs(0, 0), solved(asFracs(0, 0)...)},
		{"the first that is not 0 is taken, not the greatest", equations(fracs(ratio(1, 2), asFrac(1)), asFracs(most, 1)), asFracs(1, 1), beyond},
		{"beyond in the last column", equations(asFracs(1, 0, 0), asFracs(0, 1, most), fracs(asFrac(0), asFrac(0), half)), asFracs(0, 0, 0), beyond},

		{"beyond ahead of a column that has none", equations(fracs(half, asFrac(0)), asFracs(most, 0)), asFracs(0, 0), beyond},
		{"beyond on the right ahead of a column that has none", equations(asFracs(1, 0), asFracs(root, 0)), asFracs(root, 0), beyond},
		{"a column that has none ahead of what is beyond", equations(asFracs(0, most), fracs(asFrac(0), half)), asFracs(0, 0), solvedCode(impl.ErrNone)},
		{"a column that has none ahead of the last quotients", equations(fracs(half, asFrac(0)), asFracs(0, 0)), asFracs(most, most), solvedCode(impl.ErrNone)},
	})
}

func TestSolveRowsFaults(t *testing.T) {
	wrong := solvedCode(impl.ErrForm)
	checkRowCases(t, []rowCase{
		{"nil", nil, nil, wrong},
		{"no rows", equations(), fracs(), wrong},
		{"no rows, one on the right", nil, asFracs(1), wrong},
		{"an empty row", equations(nil), asFracs(1), wrong},
		{"an empty row, and nothing on the right", equations(nil), nil, wrong},
		{"five rows", unitRows(5), asFracs(1, 2, 3, 4, 5), wrong},
		{"far too many rows", unitRows(200), slices.Repeat(asFracs(1), 200), wrong},
		{"a nought, and nothing on the right", equations(asFracs(0)), nil, wrong},
	})
	for n := 1; n <= 4; n++ {
		right := asFracs(1, 2, 3, 4)[:n]
		checkSolve(t, "right", unitRows(n), right, solved(right...))
		checkSolve(t, "right is too short", unitRows(n), right[:n-1], wrong)
		checkSolve(t, "right is too long", unitRows(n), append(right[:n:n], asFrac(0)), wrong)
		checkSolve(t, "right is nil", unitRows(n), nil, wrong)
		checkSolve(t, "all rows are too long", unitRows(n + 1)[:n], right, wrong)
		for i := range n {
			short, long, none := unitRows(n), unitRows(n), unitRows(n)
			short[i], long[i], none[i] = short[i][:n-1], append(long[i], asFrac(0)), nil
			checkSolve(t, "a row is too short", short, right, wrong)
			checkSolve(t, "a row is too long", long, right, wrong)
			checkSolve(t, "a row is nil", none, right, wrong)
		}
	}
}

// Each place, in the rows and on the right, with each fraction that is not right, and with each that is.
func TestSolveRowsOfEveryFraction(t *testing.T) {
	for n := 1; n <= 4; n++ {
		for i := range n * (n + 1) {
			for _, f := range append(wrongFracs(), rightFracs()...) {
				rows, right := unitRows(n), asFracs(1, 2, 3, 4)[:n]
				if i < n*n {
					rows[i/n][i%n] = f
				} else {
					right[i-n*n] = f
				}
				want := solvedCode(impl.ErrForm)
				if isRight(f) {
					want = solveWant(rows, right)
				}
				checkSolve(t, "one fraction", rows, right, want)
			}
		}
	}
}

// determinant goes by the first row.
func determinant(rows [][]*big.Rat) *big.Rat {
	if len(rows) == 0 {
		return number(1)
	}
	var r reckoning
	sum := new(big.Rat)
	for c, n := range rows[0] {
		var rest [][]*big.Rat
		for _, row := range rows[1:] {
			rest = append(rest, slices.Delete(slices.Clone(row), c, c+1))
		}
		term := r.times(n, determinant(rest))
		if c%2 == 1 {
			term = minus(term)
		}
		sum = r.sum(sum, term)
	}
	return sum
}

// checkMet asks whether what was told meets the rows; where there is none, it is that no one alone could.
func checkMet(t *testing.T, rows [][]impl.Frac, right []impl.Frac, got impl.LinesFit) {
	t.Helper()
	exact := exactRows(rows, right)
	var square [][]*big.Rat
	for _, row := range exact {
		square = append(square, row[:len(rows)])
	}
	if none := determinant(square).Sign() == 0; got.Code == impl.ErrNone && !none || got.Code == impl.OK && none {
		t.Errorf("%v: %v, but the determinant is %v", rows, got, determinant(square))
	}
	if got.Code != impl.OK {
		return
	}
	var r reckoning
	for _, row := range exact {
		sum := new(big.Rat)
		for c, f := range got.List {
			sum = r.sum(sum, r.times(row[c], exactOf(f)))
		}
		if sum.Cmp(row[len(rows)]) != 0 {
			t.Errorf("%v, %v: %v does not meet them", rows, right, got)
		}
	}
}

func checkSolvedRows(t *testing.T, rows [][]impl.Frac, right []impl.Frac) int64 {
	t.Helper()
	want := solveWant(rows, right)
	checkSolve(t, "some", rows, right, want)
	checkMet(t, rows, right, want)
	return want.Code
}

// Every two rows of -1, 0 and 1, and every three of 0 and 1.
func TestSolveAllSmallRows(t *testing.T) {
	met := map[int64]int{}
	for i := range 729 {
		at := func(power int) int64 { return int64(i/power%3 - 1) }
		met[checkSolvedRows(t, equations(asFracs(at(1), at(3)), asFracs(at(9), at(27))), asFracs(at(81), at(243)))]++
	}
	for i := range 512 {
		at := func(j int) int64 { return int64(i >> j & 1) }
		rows := equations(asFracs(at(0), at(1), at(2)), asFracs(at(3), at(4), at(5)), asFracs(at(6), at(7), at(8)))
		for j := range int64(8) {
			met[checkSolvedRows(t, rows, asFracs(j&1, j>>1&1, j>>2))]++
		}
	}
	// Of the 81 pairs of rows 48 are not one a multiple of the other, and of the 512 three rows 174.
	if met[impl.OK] != 9*48+8*174 || met[impl.ErrNone] != 9*33+8*338 {
		t.Errorf("the codes are %v", met)
	}
}

func TestSomeRows(t *testing.T) {
	chance := rand.New(rand.NewSource(129))
	met := map[int64]int{}
	for i := range 4000 {
		rows, right := someRows(chance, 1+i%4, numbers(1, 2, 9, 1000, impl.MaxNum)[i%5], numbers(1, 1, 3, 60, impl.MaxNum)[i/4%5])
		switch i % 7 {
		case 0:
			rows[0] = slices.Repeat(asFracs(0), len(rows))
		case 1:
			rows[0][0] = asFrac(0)
		case 2:
			rows[len(rows)-1] = slices.Clone(rows[0])
		}
		met[checkSolvedRows(t, rows, right)]++
	}
	if min(met[impl.OK], met[impl.ErrNone], met[impl.ErrRange]) < 500 {
		t.Errorf("the codes are %v", met)
	}
}

// The four sums of a best fit, as four rows, are solved by the fit itself.
func TestRowsOfAFit(t *testing.T) {
	chance := rand.New(rand.NewSource(130))
	same := 0
	for i := range 300 {
		list := someMarks(chance, 2+i%9, 9, 20)
		var s [8]int64
		for _, m := range list {
			for j, n := range [8]int64{1, m.X, m.Y, m.X*m.X + m.Y*m.Y, m.Dx, m.Dy, m.X*m.Dx + m.Y*m.Dy, m.X*m.Dy - m.Y*m.Dx} {
				s[j] += n
			}
		}
		rows := equations(asFracs(s[0], 0, s[1], -s[2]), asFracs(0, s[0], s[2], s[1]), asFracs(s[1], s[2], s[3], 0), asFracs(-s[2], s[1], 0, s[3]))
		got, fit := impl.SolveRows(rows, asFracs(s[4:]...)), impl.FitModel(list)
		if got.Code == impl.ErrRange {
			continue
		}
		same++
		checkSolved(t, brief(list), got, solved(fit.Model.Sx, fit.Model.Sy, fit.Model.K, fit.Model.R))
	}
	if same < 200 {
		t.Errorf("%d fits were solved", same)
	}
}
