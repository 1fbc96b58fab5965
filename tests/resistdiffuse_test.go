package tests

import (
	"math/rand"
	"testing"

	"loop.example/g00057/impl"
)

func TestDiffuseByHand(t *testing.T) {
	for _, c := range []struct {
		name         string
		rows         [][]int64
		share, steps int64
		want         impl.RowsResult
	}{
		{"once", grid(numbers(64, 0, 0)), 16, 1, doseRows(numbers(48, 16, 0))},
		{"twice", grid(numbers(64, 0, 0)), 16, 2, doseRows(numbers(40, 20, 4))},
		{"from the end", grid(numbers(0, 0, 64)), 16, 2, doseRows(numbers(4, 20, 40))},
		{"from the middle", grid(numbers(0, 64, 0)), 16, 1, doseRows(numbers(16, 32, 16))},
		{"a column", column(0, 64, 0), 16, 1, impl.RowsResult{Rows: column(16, 32, 16)}},
		{"a column, from above", column(64, 0), 16, 1, impl.RowsResult{Rows: column(48, 16)}},
		{"a column, from below", column(0, 64), 16, 1, impl.RowsResult{Rows: column(16, 48)}},
		{"no step", grid(numbers(64, 0, 1)), 16, 0, doseRows(numbers(64, 0, 1))},
		{"no share", grid(numbers(64, 0, 1)), 0, 20, doseRows(numbers(64, 0, 1))},
		{"one place", grid(numbers(mostValue)), 16, 20, doseRows(numbers(mostValue))},
		{"at one time", grid(numbers(64, 64)), 16, 1, doseRows(numbers(64, 64))},
		{"at one time, both ways", grid(numbers(64, 128, 0)), 16, 1, doseRows(numbers(80, 80, 32))},
		{"the middle gives all", grid(numbers(0, 0, 0), numbers(0, 64, 0), numbers(0, 0, 0)), 16, 1,
			doseRows(numbers(0, 16, 0), numbers(16, 0, 16), numbers(0, 16, 0))},
		{"a corner", grid(numbers(64, 0), numbers(0, 0)), 16, 1, doseRows(numbers(32, 16), numbers(16, 0))},
		{"the last corner", grid(numbers(0, 0), numbers(0, 64)), 16, 1, doseRows(numbers(0, 16), numbers(16, 32))},
		{"a side", grid(numbers(0, 64, 0), numbers(0, 0, 0)), 16, 1, doseRows(numbers(16, 16, 16), numbers(0, 16, 0))},
		{"a side, left", grid(numbers(0, 0), numbers(64, 0), numbers(0, 0)), 16, 1, doseRows(numbers(16, 0), numbers(16, 16), numbers(16, 0))},
		{"the least share", grid(numbers(63, 0)), 1, 20, doseRows(numbers(63, 0))},
		{"the least share of 64", grid(numbers(64, 0)), 1, 2, doseRows(numbers(63, 1))},
		{"the least share of 127", grid(numbers(127, 0)), 1, 1, doseRows(numbers(126, 1))},
		{"a share that is not whole", grid(numbers(63, 0)), 15, 1, doseRows(numbers(49, 14))},
		{"3 gives none", grid(numbers(3, 0)), 16, 1, doseRows(numbers(3, 0))},
		{"4 gives 1", grid(numbers(4, 0)), 16, 1, doseRows(numbers(3, 1))},
		{"7 gives 1 to each side", grid(numbers(0, 7, 0)), 16, 1, doseRows(numbers(1, 5, 1))},
		{"8 gives 2 to each side", grid(numbers(0, 8, 0)), 16, 1, doseRows(numbers(2, 4, 2))},
		{"the greatest", filled(16, 16, mostValue), 16, 20, impl.RowsResult{Rows: filled(16, 16, mostValue)}},
	} {
		checkRows(t, c.name, impl.Diffuse(c.rows, c.share, c.steps), c.want)
		checkRows(t, c.name+", plainly", diffuseWant(c.rows, c.share, c.steps), c.want)
	}
}

func TestDiffuseFaults(t *testing.T) {
	good := grid(numbers(9, 9))
	for _, c := range []struct {
		name         string
		rows         [][]int64
		share, steps int64
		code         int64
	}{
		{"the share -1", good, -1, 1, impl.ErrRange},
		{"the share 17", good, 17, 1, impl.ErrRange},
		{"the share 17, no steps", good, 17, 0, impl.ErrRange},
		{"steps below 0", good, 1, -1, impl.ErrRange},
		{"steps above 20", good, 1, 21, impl.ErrRange},
		{"no share, steps above 20", good, 0, 21, impl.ErrRange},
		{"both", good, 17, 21, impl.ErrRange},
		{"no rows, the share -1", nil, -1, 1, impl.ErrForm},
		{"a wide row, the share 17", filled(1, 17, 1), 17, 1, impl.ErrMany},
		{"no rows, steps above 20", nil, 1, 21, impl.ErrForm},
		{"a high grid, steps below 0", filled(17, 1, 1), 1, -1, impl.ErrMany},
		{"above MaxValue at first", grid(numbers(mostValue+1, 0)), 16, 1, impl.ErrRange},
	} {
		checkRows(t, c.name, impl.Diffuse(c.rows, c.share, c.steps), rowsCode(c.code))
		checkRows(t, c.name+", plainly", diffuseWant(c.rows, c.share, c.steps), rowsCode(c.code))
	}
	for _, c := range gridCases() {
		want := rowsCode(c.code)
		if c.code == impl.OK {
			want = diffuseWant(c.rows, 9, 2)
		}
		checkRows(t, c.name, impl.Diffuse(c.rows, 9, 2), want)
	}
}

// What is given is rounded down, so that a number may come above MaxValue; it is asked in the end alone.
func TestDiffuseAboveMaxValue(t *testing.T) {
	cross := grid(numbers(0, mostValue, 0), numbers(mostValue, 3, mostValue), numbers(0, mostValue, 0))
	back := grid(numbers(375000, 562500, 375000), numbers(562500, 250003, 562500), numbers(375000, 562500, 375000))
	checkRows(t, "3 above it", impl.Diffuse(cross, 16, 1), rowsCode(impl.ErrRange))
	checkRows(t, "3 above it on the way", impl.Diffuse(cross, 16, 2), impl.RowsResult{Rows: back})
	checkRows(t, "just up to it", impl.Diffuse(with(cross, 1, 1, 0), 16, 1),
		doseRows(numbers(500000, 250000, 500000), numbers(250000, mostValue, 250000), numbers(500000, 250000, 500000)))

	dip := grid(numbers(mostValue, mostValue-1, mostValue))
	for steps := range int64(21) {
		want := impl.RowsResult{Rows: dip}
		if steps%2 == 1 {
			want = rowsCode(impl.ErrRange)
		}
		checkRows(t, "1 above it", impl.Diffuse(dip, 1, steps), want)
		checkRows(t, "1 above it, plainly", diffuseWant(dip, 1, steps), want)
		checkRows(t, "1 above it, as a column", impl.Diffuse(flipped(dip), 1, steps), diffuseWant(flipped(dip), 1, steps))
	}
	pair := grid(numbers(mostValue, mostValue-1))
	checkRows(t, "up to it", impl.Diffuse(pair, 1, 1), doseRows(numbers(mostValue-1, mostValue)))
	checkRows(t, "up to it, and back", impl.Diffuse(pair, 1, 2), doseRows(numbers(mostValue, mostValue-1)))
}

// One number above MaxValue is found wherever it stands.
func TestDiffuseAboveMaxValueAtEachPlace(t *testing.T) {
	for _, size := range [][2]int{{3, 3}, {3, 16}, {16, 3}, {16, 16}} {
		for y := range size[0] {
			for x := range size[1] {
				rows := with(filled(size[0], size[1], mostValue), x, y, mostValue-1)
				got := impl.Diffuse(rows, 1, 1)
				checkRows(t, "a dip", got, rowsCode(impl.ErrRange))
				checkRows(t, "a dip, filled again", impl.Diffuse(rows, 1, 2), diffuseWant(rows, 1, 2))
			}
		}
	}
}

func TestDiffuseBounds(t *testing.T) {
	rows := grid(numbers(0, 1, 63, 64), numbers(65, 1000, mostValue-1, mostValue))
	for _, n := range append(resistEnds(), placesFrom(-2, 22)...) {
		for _, other := range numbers(-1, 0, 1, 2, 15, 16, 17, 19, 20, 21) {
			checkRows(t, "the share", impl.Diffuse(rows, n, other), diffuseWant(rows, n, other))
			checkRows(t, "the steps", impl.Diffuse(rows, other, n), diffuseWant(rows, other, n))
		}
	}
}

// Nothing is lost, and the grid may be turned over or mirrored ahead of it or behind it.
func TestDiffusionKeepsItsBook(t *testing.T) {
	chance := rand.New(rand.NewSource(8))
	held := 0
	for i := range 700 {
		size := someSizes()[i%len(someSizes())]
		rows := someGrid(chance, size[0], size[1], 1+chance.Int63n(mostValue))
		share, steps := chance.Int63n(17), chance.Int63n(8)
		got := impl.Diffuse(rows, share, steps)
		checkRows(t, "some", got, diffuseWant(rows, share, steps))
		if got.Code != impl.OK {
			continue
		}
		held++
		if impl.SumOf(got.Rows) != impl.SumOf(rows) {
			t.Fatalf("%s by %d, %d times: %v is now %v", brief(rows), share, steps, impl.SumOf(rows), impl.SumOf(got.Rows))
		}
		checkRows(t, "flipped", impl.Diffuse(flipped(rows), share, steps), impl.RowsResult{Rows: flipped(got.Rows)})
		checkRows(t, "mirrored", impl.Diffuse(mirrored(rows), share, steps), impl.RowsResult{Rows: mirrored(got.Rows)})
	}
	if held < 500 {
		t.Errorf("only %d were right", held)
	}
}

// Steps in two goes are those of one, as long as no number is too great between them.
func TestDiffusionInTwoGoes(t *testing.T) {
	chance := rand.New(rand.NewSource(9))
	for range 300 {
		rows := someGrid(chance, 1+chance.Intn(6), 1+chance.Intn(6), 1000)
		share, first, second := chance.Int63n(17), chance.Int63n(11), chance.Int63n(11)
		half := impl.Diffuse(rows, share, first)
		checkRows(t, "two goes", impl.Diffuse(half.Rows, share, second), impl.Diffuse(rows, share, first+second))
	}
}

func TestDiffusionOfAllSmall(t *testing.T) {
	list := numbers(0, 3, 4, 67)
	for a := range 4 * 4 * 4 * 4 {
		row := numbers(list[a&3], list[a>>2&3], list[a>>4&3], list[a>>6&3])
		for _, rows := range [][][]int64{grid(row), column(row...), grid(row[:2], row[2:])} {
			for _, share := range numbers(1, 5, 15, 16) {
				for steps := range int64(4) {
					checkRows(t, "small", impl.Diffuse(rows, share, steps), diffuseWant(rows, share, steps))
				}
			}
		}
	}
}
