package tests

import (
	"slices"
	"testing"

	"loop.example/g00057/impl"
)

func site(x int64, y int64) impl.Site {
	return impl.Site{X: x, Y: y}
}

func checkSitesOf(t *testing.T, radius int64, step int64, want impl.SitesResult) {
	t.Helper()
	got := impl.SitesOf(radius, step)
	if !sameSites(got, want) {
		t.Errorf("radius %d, step %d: %d sites, %s, want %d, %s", radius, step, len(got.Sites), brief(got), len(want.Sites), brief(want))
	}
}

func TestSitesOfByHand(t *testing.T) {
	for _, c := range []struct {
		radius, step int64
		want         impl.SitesResult
	}{
		{0, 1, sites(site(0, 0))},
		{0, 50, sites(site(0, 0))},
		{6, 7, sites(site(0, 0))},
		{49, 50, sites(site(0, 0))},
		{1, 1, sites(site(0, -1), site(-1, 0), site(0, 0), site(1, 0), site(0, 1))},
		{2, 2, sites(site(0, -2), site(-2, 0), site(0, 0), site(2, 0), site(0, 2))},
		{50, 50, sites(site(0, -50), site(-50, 0), site(0, 0), site(50, 0), site(0, 50))},
		{2, 1, sites(site(0, -2), site(-1, -1), site(0, -1), site(1, -1), site(-2, 0), site(-1, 0), site(0, 0), site(1, 0), site(2, 0),
			site(-1, 1), site(0, 1), site(1, 1), site(0, 2))},
		{3, 2, sites(site(-2, -2), site(0, -2), site(2, -2), site(-2, 0), site(0, 0), site(2, 0), site(-2, 2), site(0, 2), site(2, 2))},
	} {
		checkSitesOf(t, c.radius, c.step, c.want)
		checkSitesOf(t, c.radius, c.step, sitesWant(c.radius, c.step))
	}
}

func TestSitesJustOnTheCircle(t *testing.T) {
	for _, c := range []struct {
		radius, step int64
		on, beyond   impl.Site
	}{
		{5, 1, site(3, 4), site(4, 4)}, {5, 1, site(-4, 3), site(-5, 1)}, {5, 1, site(0, -5), site(1, -5)}, {10, 2, site(-6, -8), site(-8, -8)},
		{25, 5, site(20, -15), site(20, -20)}, {50, 10, site(-30, 40), site(40, 40)}, {50, 10, site(50, 0), site(50, 10)}, {39, 13, site(0, 39), site(13, 39)},
	} {
		got := impl.SitesOf(c.radius, c.step)
		if !slices.Contains(got.Sites, c.on) || slices.Contains(got.Sites, c.beyond) {
			t.Errorf("radius %d, step %d: %s", c.radius, c.step, brief(got))
		}
		checkSitesOf(t, c.radius, c.step, sitesWant(c.radius, c.step))
	}
}

// There are never just MaxTrace sites, as but for the middle they come by fours; 197 is the next fewer.
func TestSitesOfAsManyAsThereMayBe(t *testing.T) {
	for _, c := range []struct {
		radius, step int64
		many         int
	}{
		{8, 1, 197}, {16, 2, 197}, {24, 3, 197}, {32, 4, 197}, {40, 5, 197}, {48, 6, 197}, {7, 1, 149}, {17, 2, 0}, {9, 1, 0}, {25, 3, 0}, {33, 4, 0}, {41, 5, 0}, {49, 6, 0}, {50, 6, 0}, {50, 7, 161}, {50, 1, 0},
	} {
		got := impl.SitesOf(c.radius, c.step)
		if len(got.Sites) != c.many || (got.Code == impl.ErrMany) != (c.many == 0) {
			t.Errorf("radius %d, step %d: code %d, %d sites", c.radius, c.step, got.Code, len(got.Sites))
		}
		checkSitesOf(t, c.radius, c.step, sitesWant(c.radius, c.step))
	}
}

func TestSitesOfEveryRadiusAndStep(t *testing.T) {
	met := map[int64]int{}
	for radius := int64(-2); radius <= 52; radius++ {
		for step := int64(-2); step <= 52; step++ {
			want := sitesWant(radius, step)
			checkSitesOf(t, radius, step, want)
			met[want.Code]++
		}
	}
	if min(met[impl.OK], met[impl.ErrMany], met[impl.ErrRange]) < 100 {
		t.Errorf("the codes are %v", met)
	}
}

func TestSitesOfEnds(t *testing.T) {
	for _, radius := range measureEnds() {
		for _, step := range measureEnds() {
			checkSitesOf(t, radius, step, sitesWant(radius, step))
		}
	}
	for _, c := range [][2]int64{{-1, 1}, {51, 1}, {-1, 50}, {51, 50}, {0, 0}, {0, -1}, {0, 51}, {50, 0}, {50, -1}, {50, 51}, {51, 51}, {-1, -1}, {leastInt, 1}, {greatestInt, 1}, {8, leastInt}, {8, greatestInt}, {leastInt, leastInt}, {greatestInt, greatestInt}} {
		checkSitesOf(t, c[0], c[1], sitesCode(impl.ErrRange))
	}
}

// The sites lie alike on all sides: turned by a quarter they are the same ones.
func TestSitesLieAlike(t *testing.T) {
	for radius := range int64(51) {
		for step := int64(1); step <= 50; step++ {
			list := impl.SitesOf(radius, step).Sites
			there := map[impl.Site]int{}
			for _, s := range list {
				there[s]++
			}
			for _, s := range list {
				if there[s] != 1 || there[site(-s.Y, s.X)] != 1 {
					t.Fatalf("radius %d, step %d: %v", radius, step, s)
				}
			}
		}
	}
}
