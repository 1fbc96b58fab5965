package tests

import (
	"math/rand"
	"slices"
	"testing"

	"loop.example/g00057/impl"
)

// checkToolRun asks the plain reckoning, too.
func checkToolRun(t *testing.T, what string, was impl.Tool, events []impl.ToolEvent, want impl.ToolLog) {
	t.Helper()
	checkLog(t, what, impl.RunTool(was, events), want)
	checkLog(t, what+", plainly", runToolWant(was, events), want)
}

func TestRunToolByHand(t *testing.T) {
	idle := plainTool(impl.ToolIdle)
	list, etch, strip := idle.Approved, idle.Approved[0], idle.Approved[1]
	start, trip, end := toolEvent(impl.ToolStart), toolEvent(impl.ToolTrip), toolEvent(impl.ToolEnd)
	for _, state := range toolStates() {
		checkToolRun(t, "none", plainTool(state), nil, toolLog(plainTool(state), nil))
		checkToolRun(t, "no events", plainTool(state), toolEvents(), toolLog(plainTool(state), numbers()))
	}
	checkToolRun(t, "one run", idle, oneRun("etch", 5), toolLog(tool(impl.ToolIdle, 2, 3, true, list...), numbers(0, 0, 0), etch))
	checkToolRun(t, "a run that trips", idle, toolEvents(loadOf("etch", 6), loadOf("etch", 5), start, trip),
		toolLog(tool(impl.ToolAlarm, 2, 3, true, list...), numbers(impl.ErrNone, 0, 0, 0), etch))
	checkToolRun(t, "a run under way", plainTool(impl.ToolReady), toolEvents(start), toolLog(plainTool(impl.ToolRunning), numbers(0), etch))
	checkToolRun(t, "one that was under way", plainTool(impl.ToolRunning), toolEvents(end), toolLog(tool(impl.ToolIdle, 2, 3, true, list...), numbers(0)))
	checkToolRun(t, "loaded twice", idle, toolEvents(loadOf("etch", 5), loadOf("strip", -7), start),
		toolLog(withRecipe(tool(impl.ToolRunning, 1, 3, true, list...), "strip", -7), numbers(0, 0, 0), strip))
	checkToolRun(t, "the second is not approved", idle, toolEvents(loadOf("etch", 5), loadOf("strip", 5), start),
		toolLog(plainTool(impl.ToolRunning), numbers(0, impl.ErrNone, 0), etch))
	checkToolRun(t, "two recipes, and none behind the limit", idle, slices.Concat(oneRun("strip", -7), oneRun("etch", 5), oneRun("strip", -7)),
		toolLog(withRecipe(tool(impl.ToolReady, 3, 3, true, list...), "strip", -7), numbers(0, 0, 0, 0, 0, 0, 0, impl.ErrMany, impl.ErrForm), strip, etch))
	checkToolRun(t, "the same one twice", idle, slices.Concat(oneRun("etch", 5), oneRun("etch", 5)), toolLog(tool(impl.ToolIdle, 3, 3, true, list...), numbers(0, 0, 0, 0, 0, 0), etch, etch))
}

// What comes between others with a code leaves no trace but the code.
func TestRunToolWithCodesBetween(t *testing.T) {
	idle := plainTool(impl.ToolIdle)
	events := toolEvents(toolEvent(impl.ToolPower), loadOf("etch", 5), toolEvent(77), toolEvent(impl.ToolEnd), toolEvent(impl.ToolService), toolEvent(impl.ToolStart),
		loadOf("strip", -7), toolEvent(impl.ToolStart), toolEvent(impl.ToolQualify), toolEvent(impl.ToolEnd))
	codes := numbers(impl.ErrForm, 0, impl.ErrText, impl.ErrForm, impl.ErrForm, 0, impl.ErrForm, impl.ErrForm, impl.ErrForm, 0)
	checkToolRun(t, "codes between", idle, events, toolLog(tool(impl.ToolIdle, 2, 3, true, idle.Approved...), codes, approval("etch", 5)))
	checkToolRun(t, "nothing but codes", idle, make([]impl.ToolEvent, 200), toolLog(idle, longer(numbers(impl.ErrText), 200)))
}

// The whole way: a tool fails at its run, is serviced and qualified, and runs again from 0 on.
func TestRunToolOverAService(t *testing.T) {
	list := approvals(approval("etch", 5))
	fix := toolEvents(toolEvent(impl.ToolService), toolEvent(impl.ToolQualify))
	events := slices.Concat(toolEvents(toolEvent(impl.ToolPower)), oneRun("etch", 5), oneRun("etch", 5)[:2], toolEvents(toolEvent(impl.ToolFail), loadOf("etch", 5)),
		fix, oneRun("etch", 5)[:2], toolEvents(toolEvent(impl.ToolTrip), toolEvent(impl.ToolClear)), oneRun("etch", 5)[:2], toolEvents(toolEvent(impl.ToolTrip)), fix)
	codes := make([]int64, len(events))
	codes[7] = impl.ErrForm
	run := list[0]
	checkToolRun(t, "over two services", tool(impl.ToolOff, 0, 2, true, list...), events, toolLog(tool(impl.ToolIdle, 0, 2, true, list...), codes, run, run, run, run))
	checkToolRun(t, "not Qualified at first", tool(impl.ToolOff, 0, 2, false, list...), events[:4],
		toolLog(tool(impl.ToolIdle, 0, 2, false, list...), numbers(0, impl.ErrTaken, impl.ErrForm, impl.ErrForm)))
}

func TestRunToolOfManyEvents(t *testing.T) {
	for _, n := range numbersOf(198, 199, 200, 201, 202, 100000) {
		events := longer(oneRun("etch", 5), n)
		was := tool(impl.ToolIdle, 0, 1000, true, approval("etch", 5))
		want := logCode(impl.ErrMany)
		if n <= 200 {
			want = runToolWant(was, events)
			if len(want.Runs) != (n+1)/3 || len(want.Codes) != n || want.Code != impl.OK {
				t.Errorf("the plain reckoning of %d events: %s", n, brief(want))
			}
		}
		checkToolRun(t, "many events", was, events, want)
	}
	checkToolRun(t, "too many, and a fault", tool(impl.ToolIdle, 0, 0, true), make([]impl.ToolEvent, 201), logCode(impl.ErrRange))
	checkToolRun(t, "too many, and another fault", tool(7, 0, 1, true), make([]impl.ToolEvent, 201), logCode(impl.ErrForm))
}

// runBook follows a log by itself, event by event, and asks of each run whether it may be.
type runBook struct {
	qualified bool
	loaded    impl.Approval
	since     int64
}

// take follows an event without a code, and tells whether it was a run that may not be.
func (b *runBook) take(was impl.Tool, e impl.ToolEvent) bool {
	switch e.Kind {
	case impl.ToolLoad:
		b.loaded = approval(e.Recipe, e.Sum)
	case impl.ToolQualify:
		b.qualified, b.since = true, 0
	case impl.ToolService, impl.ToolFail:
		b.qualified = false
	case impl.ToolStart:
		b.since++
		return !b.qualified || b.since > was.Limit || !slices.Contains(was.Approved, b.loaded)
	}
	return false
}

// checkNothingRunsThatMayNot: nothing that is not approved, nor unqualified, nor beyond the limit; and a tool without a fault is one behind it.
func checkNothingRunsThatMayNot(t *testing.T, was impl.Tool, events []impl.ToolEvent) impl.ToolLog {
	t.Helper()
	log := impl.RunTool(was, events)
	if want := runToolWant(was, events); !sameLog(log, want) {
		t.Fatalf("RunTool(%s, %v) = %s, want %s", brief(was), events, brief(log), brief(want))
	}
	if log.Code != impl.OK {
		return log
	}
	// A run that was under way when the tool was handed in counts, but is none of the log's.
	book := runBook{was.Qualified, approval(was.Recipe, was.Sum), was.Runs + bit(was.State == impl.ToolRunning)}
	var runs []impl.Approval
	for i, e := range events {
		if log.Codes[i] != impl.OK {
			continue
		}
		if book.take(was, e) {
			t.Fatalf("RunTool(%s, %v): the run at %d may not be", brief(was), events, i)
		}
		if e.Kind == impl.ToolStart {
			runs = append(runs, book.loaded)
		}
	}
	now := log.Tool
	if !slices.Equal(runs, log.Runs) || impl.ToolFault(now) != impl.OK || now.Runs+bit(now.State == impl.ToolRunning) != book.since || now.Qualified != book.qualified {
		t.Fatalf("RunTool(%s, %v) = %s, by the book %v %v", brief(was), events, brief(log), runs, book)
	}
	if now.Limit != was.Limit || !slices.Equal(now.Approved, was.Approved) || !impl.CheckRuns(was, log) || !impl.CheckRuns(now, log) {
		t.Fatalf("RunTool(%s, %v) = %s", brief(was), events, brief(log))
	}
	return log
}

func TestRunToolOfAllShortLogs(t *testing.T) {
	kinds := toolEvents(loadOf("strip", -7), loadOf("strip", 5))
	for _, kind := range numbers(1, 3, 4, 5, 6, 7, 8, 9) {
		kinds = append(kinds, toolEvent(kind))
	}
	met, ran := map[int64]int{}, 0
	for _, state := range toolStates() {
		was := plainTool(state)
		was.Limit = 2
		for number := range power(len(kinds), 4) {
			events := make([]impl.ToolEvent, 4)
			for i := range events {
				events[i] = kinds[number%len(kinds)]
				number /= len(kinds)
			}
			log := checkNothingRunsThatMayNot(t, was, events)
			met[log.Tool.State]++
			ran += len(log.Runs)
		}
	}
	if len(met) != 7 || ran < 1000 {
		t.Errorf("the states are %v, and %d runs", met, ran)
	}
}

func TestRunToolOfSomeLogs(t *testing.T) {
	chance, met, ran := rand.New(rand.NewSource(214)), map[int64]int{}, 0
	for i := range 4000 {
		was := someTool(chance)
		if i%10 == 0 {
			was = spoiledTool(chance, was)
		}
		log := checkNothingRunsThatMayNot(t, was, someToolEvents(chance, was, chance.Intn(numbersOf(20, 203, 203)[i%3])))
		met[log.Code]++
		ran += int(bit(len(log.Runs) > 3))
	}
	if met[impl.OK] < 2000 || met[impl.ErrForm] < 50 || met[impl.ErrMany] < 10 || met[impl.ErrRange] < 20 || ran < 200 {
		t.Errorf("the codes are %v, and %d have more than three runs", met, ran)
	}
}

// What is run in two goes is what is run in one.
func TestRunToolInTwoGoes(t *testing.T) {
	chance := rand.New(rand.NewSource(215))
	for range 1500 {
		was := someTool(chance)
		events := someToolEvents(chance, was, chance.Intn(201))
		cut := chance.Intn(len(events) + 1)
		whole, first := impl.RunTool(was, events), impl.RunTool(was, events[:cut])
		second := impl.RunTool(first.Tool, events[cut:])
		joined := toolLog(second.Tool, slices.Concat(first.Codes, second.Codes), slices.Concat(first.Runs, second.Runs)...)
		checkLog(t, "in two goes", joined, whole)
	}
}

func checkRunsHold(t *testing.T, what string, machine impl.Tool, log impl.ToolLog, want bool) {
	t.Helper()
	if got, plain := impl.CheckRuns(machine, log), checkRunsWant(machine, log); got != want || plain != want {
		t.Errorf("%s: CheckRuns(%s, %s) = %t, want %t (by the plain reckoning %t)", what, brief(machine), brief(log), got, want, plain)
	}
}

func TestCheckRunsByHand(t *testing.T) {
	idle := plainTool(impl.ToolIdle)
	etch, strip := approval("etch", 5), approval("strip", -7)
	for _, state := range toolStates() {
		checkRunsHold(t, "no runs", plainTool(state), impl.ToolLog{}, true)
		checkRunsHold(t, "approved", plainTool(state), impl.ToolLog{Runs: approvals(etch, strip, strip, etch)}, true)
		checkRunsHold(t, "not approved", plainTool(state), impl.ToolLog{Runs: approvals(approval("other", 5))}, false)
	}
	checkRunsHold(t, "more runs than the limit has", idle, impl.ToolLog{Runs: longer(approvals(etch, strip), 100000)}, true)
	for _, wrong := range approvals(approval("etch", -7), approval("strip", 5), approval("etch", 0), approval("", 5), approval("", 0), approval("Etch", 5)) {
		checkRunsHold(t, "alone", idle, impl.ToolLog{Runs: approvals(wrong)}, false)
		checkRunsHold(t, "first", idle, impl.ToolLog{Runs: approvals(wrong, etch, strip)}, false)
		checkRunsHold(t, "between", idle, impl.ToolLog{Runs: approvals(etch, wrong, strip)}, false)
		checkRunsHold(t, "last", idle, impl.ToolLog{Runs: approvals(etch, strip, wrong)}, false)
	}
	for _, code := range toolEnds() {
		checkRunsHold(t, "a code", idle, impl.ToolLog{Code: code, Runs: approvals(etch)}, code == 0)
		checkRunsHold(t, "a code, and no runs", idle, impl.ToolLog{Code: code}, code == 0)
	}
	checkRunsHold(t, "nothing", impl.Tool{}, impl.ToolLog{}, false)
	for _, c := range slices.Concat(toolNumberCases(), approvalCases(), recipeStateCases()) {
		checkRunsHold(t, c.name, c.tool, impl.ToolLog{}, c.code == impl.OK)
		checkRunsHold(t, c.name+", and all its approvals", c.tool, impl.ToolLog{Runs: c.tool.Approved}, c.code == impl.OK)
	}
}

// Of a log nothing but its code and its runs is asked: it may be another tool's, with a fault, and its codes are any.
func TestCheckRunsAsksNothingElse(t *testing.T) {
	idle := plainTool(impl.ToolIdle)
	log := impl.ToolLog{Tool: impl.Tool{State: 77, Runs: -1}, Codes: numbers(1, 2, -3, greatestInt), Runs: approvals(approval("etch", 5))}
	checkRunsHold(t, "another tool", idle, log, true)
	checkRunsHold(t, "nothing is approved any more", tool(impl.ToolIdle, 1, 3, true), log, false)
	log.Tool.Approved = approvals(approval("other", 1))
	log.Runs = append(log.Runs, approval("other", 1))
	checkRunsHold(t, "approved in the log's tool alone", idle, log, false)
}

func TestCheckRunsOfSomeLogs(t *testing.T) {
	chance, held := rand.New(rand.NewSource(216)), 0
	for i := range 6000 {
		was := someTool(chance)
		log := impl.RunTool(was, someToolEvents(chance, was, chance.Intn(60)))
		machine := was
		switch i % 4 {
		case 1:
			machine = spoiledTool(chance, was)
		case 2:
			log.Runs = append(log.Runs, approval(toolNames()[chance.Intn(6)], chance.Int63n(3)-1))
		case 3:
			machine = someTool(chance)
		}
		got := impl.CheckRuns(machine, log)
		if got != checkRunsWant(machine, log) {
			t.Fatalf("CheckRuns(%s, %s) = %t", brief(machine), brief(log), got)
		}
		held += int(bit(got))
	}
	if held < 1000 || held > 5500 {
		t.Errorf("%d logs hold", held)
	}
}
