package tests

import (
	"math/rand"
	"slices"
	"strconv"
	"strings"
	"testing"

	"loop.example/g00057/impl"
)

const plainScript = "# a lot, a tank\ntick 100\nlot 1 5 6 7\nsplit 1 2 6\n\nwhere 6\ndone 1\ntick 4\ndone 1\nleft 2\ntank n2 50\nfill n2 50\nfill n2 1\nuse n2 20\nhave n2\nscrap 7\nwhere 7\n  # so\nnone\nhold 2\ndone 2\nfree 2\ndone 2\n"

func scriptedFab() impl.Fab {
	return fab(0, withWindows(lotBook(3), timeWindow(0, 1, 10)))
}

func TestRunFabByHand(t *testing.T) {
	f := scriptedFab()
	done := fab(104, withWindows(lotBook(3, doneAt(lot(1, 5), 100, 104), childOf(1, doneAt(lot(2, 6), 104))), timeWindow(0, 1, 10)), tank("n2", 50, 50, 20))
	done.Book.Scrap = numbers(7)
	want := fabRan(done, "100", "ok", "ok", "2", "ok", "104", "ok", "! 6", "ok", "ok", "! 3", "ok", "50 20 30", "ok", "0", "! 5", "ok", "! 7", "ok", "ok")
	checkScript(t, "plain", f, plainScript, want)
	checkScript(t, "without the last byte 10", f, strings.TrimSuffix(plainScript, "\n"), want)
	checkScript(t, "one line", f, "tick 5", fabRan(fabWith(f, func(f *impl.Fab) { f.Clock = 5 }), "5"))
	checkScript(t, "one line with a byte 10", f, "tick 5\n", fabRan(fabWith(f, func(f *impl.Fab) { f.Clock = 5 }), "5"))
	checkScript(t, "two lines", f, "tick 5\ntick 6", fabRan(fabWith(f, func(f *impl.Fab) { f.Clock = 11 }), "5", "11"))
	checkScript(t, "an end of line of two bytes", f, "tick 5\r\ntick 6\r\n", fabRan(f, "! 5", "! 5"))
}

func TestScriptsThatSayNothing(t *testing.T) {
	for _, f := range []impl.Fab{bareFab(), plainFab()} {
		for _, text := range []string{"", "\n", " ", "   \n\n ", "#", "# so\n", "#\n#\n", " # tick 5\n\n", strings.Repeat("\n", 120), strings.Repeat("#", 4000), strings.Repeat(" ", 4000), strings.Repeat(" \n", 120)} {
			checkScript(t, "nothing to say", f, text, fabRan(f))
		}
	}
}

// A line with a code changes nothing, and those behind it are done all the same.
func TestCodesInScripts(t *testing.T) {
	f := plainFab()
	for line, code := range map[string]string{
		"lot 7 99": "! 1", "tank t 5 5": "! 5", "merge 7 7": "! 1", "lot 77" + strings.Repeat(" 5", 26): "! 2", "tick -1": "! 3", "where 99": "! 4", "done 7": "! 5", "x": "! 5",
		"split 7 77 11 12 13": "! 6", "left 3": "! 6", "merge 7 4": "! 7", "done 4": "! 7", "fill n2 11": "! 3", "use water 1": "! 3", "have gas": "! 4", "tank n2 5": "! 1",
	} {
		checkScript(t, "a code alone", f, line, fabRan(f, code))
		checkScript(t, "a code first", f, line+"\ntick 0\n", fabRan(f, code, "120"))
		checkScript(t, "a code last", f, "tick 0\n"+line, fabRan(f, "120", code))
		checkScript(t, "a code twice, among others", f, "tick 0\n"+line+"\n\ntick 0\n"+line+"\n# so\nhave n2", fabRan(f, "120", code, "120", code, "450 360 90"))
	}
}

func TestScriptsOfManyBytes(t *testing.T) {
	f := bareFab()
	ticked := fabRan(fab(5, lotBook(1)), "5")
	for bytes := 3998; bytes <= 4003; bytes++ {
		for _, fill := range []string{" ", "\n#", "x"} {
			text := longer([]byte("tick 5\n#"+strings.Repeat(fill, 4003)), bytes)
			lines := strings.Count(string(text), "\n")
			want := ticked
			if bytes > 4000 || lines > 120 {
				want = fabRunCode(impl.ErrMany)
			}
			checkScript(t, "many bytes", f, string(text), want)
		}
		checkScript(t, "many bytes, the last one 10", f, "tick 5\n#"+strings.Repeat("x", bytes-9)+"\n", runFabWant(f, "tick 5\n#"+strings.Repeat("x", bytes-9)+"\n"))
	}
	checkScript(t, "one line of MaxScript bytes", f, "tick"+strings.Repeat(" ", 3995)+"5", ticked)
	checkScript(t, "one byte more", f, "tick"+strings.Repeat(" ", 3996)+"5", fabRunCode(impl.ErrMany))
	checkScript(t, "far too many bytes", f, strings.Repeat("x", 1000000), fabRunCode(impl.ErrMany))
	checkScript(t, "far too many lines", f, strings.Repeat("\n", 1000000), fabRunCode(impl.ErrMany))
	checkScript(t, "runes are bytes", f, "#"+strings.Repeat("é", 1999), fabRan(f))
	checkScript(t, "runes are bytes", f, "#"+strings.Repeat("é", 2000), fabRunCode(impl.ErrMany))
}

func TestScriptsOfManyLines(t *testing.T) {
	f := bareFab()
	for _, line := range []string{"", " ", "#", "x", "tick 1"} {
		for n := 118; n <= 123; n++ {
			text := strings.Repeat(line+"\n", n)
			// Of an empty last line nothing is left if it has no byte 10.
			bare := n
			if line == "" {
				bare--
			}
			checkScriptLines(t, f, text, line, n)
			checkScriptLines(t, f, strings.TrimSuffix(text, "\n"), line, bare)
		}
	}
	checkScript(t, "the last line is not done", f, strings.Repeat("tick 1\n", 120)+"x", fabRunCode(impl.ErrMany))
	checkScript(t, "a line of one blank more", f, strings.Repeat("tick 1\n", 120)+" ", fabRunCode(impl.ErrMany))
}

// checkScriptLines has a text of so many such lines.
func checkScriptLines(t *testing.T, f impl.Fab, text string, line string, n int) {
	t.Helper()
	want := fabRan(f)
	for i := range n {
		switch line {
		case "x":
			want.Says = append(want.Says, "! 5")
		case "tick 1":
			want.Fab.Clock++
			want.Says = append(want.Says, strconv.Itoa(i+1))
		}
	}
	if n > 120 {
		want = fabRunCode(impl.ErrMany)
	}
	checkScript(t, strconv.Itoa(n)+" lines", f, text, want)
}

// someScript fits the fab as it is behind each of its lines; its last line may have no byte 10.
func someScript(chance *rand.Rand, f impl.Fab, lines int) string {
	text := ""
	for range lines {
		line := strings.ReplaceAll(someLine(chance, f), "\n", "")
		if len(text)+len(line) >= 4000 {
			break
		}
		text += line + "\n"
		if step := stepFabWant(f, line); step.Code == impl.OK {
			f = step.Fab
		}
	}
	return text[:len(text)-chance.Intn(2)*min(1, len(text))]
}

func TestSomeScripts(t *testing.T) {
	chance, said := rand.New(rand.NewSource(302)), 0
	for i := range 600 {
		f := someFab(chance)
		text := someScript(chance, f, chance.Intn(numbersOf(8, 40, 124)[i%3]))
		want := runFabWant(f, text)
		checkScript(t, "some script", f, text, want)
		said += len(want.Says)
	}
	if said < 5000 {
		t.Errorf("%d lines say something", said)
	}
}

// At whichever line a script is cut, its two goes do what it does in one.
func TestAScriptInTwoGoes(t *testing.T) {
	chance, cuts := rand.New(rand.NewSource(303)), 0
	for i := range 80 {
		f := someFab(chance)
		text := someScript(chance, f, chance.Intn(numbersOf(6, 60)[i%2]))
		if i == 0 {
			f, text = scriptedFab(), plainScript
		}
		whole := impl.RunFab(f, text)
		for at := range len(text) + 1 {
			if at > 0 && at < len(text) && text[at-1] != '\n' {
				continue
			}
			cuts++
			first := impl.RunFab(f, text[:at])
			bare := impl.RunFab(f, strings.TrimSuffix(text[:at], "\n"))
			second := impl.RunFab(first.Fab, text[at:])
			second.Says = slices.Concat(first.Says, second.Says)
			if !sameFabRun(second, whole) || !sameFabRun(first, bare) {
				t.Fatalf("%q, cut at %d, does %s in two goes, %s in one", text, at, brief(second), brief(whole))
			}
		}
	}
	if cuts < 1000 {
		t.Errorf("%d cuts", cuts)
	}
}

// A script is its lines, step by step: what StepFab answers of each of them, handed on.
func TestAScriptIsItsSteps(t *testing.T) {
	chance := rand.New(rand.NewSource(304))
	for range 200 {
		f := someFab(chance)
		text := someScript(chance, f, chance.Intn(60))
		run, steps := impl.RunFab(f, text), fabRan(f)
		for _, line := range linesWant(text) {
			step := impl.StepFab(steps.Fab, line)
			switch {
			case step.Code != impl.OK:
				steps.Says = append(steps.Says, "! "+strconv.FormatInt(step.Code, 10))
				continue
			case step.Say != "":
				steps.Says = append(steps.Says, step.Say)
			}
			steps.Fab = step.Fab
		}
		if !sameFabRun(run, steps) {
			t.Fatalf("%q does %s, and line by line %s", text, brief(run), brief(steps))
		}
	}
}

// fabLedger is kept line by line by what the lines say alone: all wafers, and what was filled into each tank and used from it.
type fabLedger struct {
	wafers       map[int64]bool
	filled, used map[string]int64
}

func ledgerOf(f impl.Fab) fabLedger {
	kept := fabLedger{map[int64]bool{}, map[string]int64{}, map[string]int64{}}
	for _, wafer := range standingWant(f.Book) {
		kept.wafers[wafer] = true
	}
	for _, t := range f.Tanks {
		kept.filled[t.Name], kept.used[t.Name] = t.Filled, t.Used
	}
	return kept
}

func (kept fabLedger) enter(line string) {
	words, n := wordsBetween(line)
	switch words[0] {
	case "lot":
		for _, wafer := range n[2:] {
			kept.wafers[wafer] = true
		}
	case "tank":
		kept.filled[words[1]], kept.used[words[1]] = 0, 0
	case "fill":
		kept.filled[words[1]] += n[2]
	case "use":
		kept.used[words[1]] += n[2]
	}
}

func checkLedger(t *testing.T, f impl.Fab, kept fabLedger) {
	t.Helper()
	standing := standingWant(f.Book)
	if len(standing) != len(kept.wafers) || len(f.Tanks) != len(kept.filled) {
		t.Fatalf("there are %d wafers and %d tanks, want %d and %d", len(standing), len(f.Tanks), len(kept.wafers), len(kept.filled))
	}
	for _, wafer := range standing {
		if !kept.wafers[wafer] {
			t.Fatalf("the wafer %d stands in %s", wafer, brief(f))
		}
	}
	for i, has := range impl.TanksOf(f).List {
		name := f.Tanks[i].Name
		if f.Tanks[i].Filled != kept.filled[name] || f.Tanks[i].Used != kept.used[name] || has != kept.filled[name]-kept.used[name] {
			t.Fatalf("the tank %v has %d, want %d filled and %d used", f.Tanks[i], has, kept.filled[name], kept.used[name])
		}
	}
}

// Whatever is asked of a fab, it stays without a fault, its wafers are as many but for lots that come, and a tank has what was filled less what was used.
func TestWhateverIsAskedOfAFab(t *testing.T) {
	chance, met := rand.New(rand.NewSource(305)), map[string]int{}
	for range 120 {
		f := someFab(chance)
		kept, clock := ledgerOf(f), f.Clock
		for range 100 {
			line := someLine(chance, f)
			step := impl.StepFab(f, line)
			if step.Code != impl.OK || step.Say == "" {
				continue
			}
			kept.enter(line)
			met[strings.Fields(line)[0]]++
			f = step.Fab
			if code := impl.FabFault(f); code != impl.OK || f.Clock < clock {
				t.Fatalf("behind %q the fab has the fault %d: %s", line, code, brief(f))
			}
			clock = f.Clock
			checkLedger(t, f, kept)
		}
	}
	for _, line := range commandLines() {
		if name := strings.Fields(line)[0]; met[name] < 50 {
			t.Errorf("done: %v", met)
		}
	}
}
