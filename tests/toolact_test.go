package tests

import (
	"math/rand"
	"testing"

	"loop.example/g00057/impl"
)

// checkAct asks the plain reckoning, too.
func checkAct(t *testing.T, what string, was impl.Tool, e impl.ToolEvent, want impl.ToolResult) {
	t.Helper()
	checkTool(t, what, impl.ToolAct(was, e), want)
	checkTool(t, what+", plainly", actWant(was, e), want)
}

// actCase is an event that comes to a plain tool of a state: what it is then differs from that by the turn.
type actCase struct {
	state int64
	kind  int64
	turn  func(t *impl.Tool)
}

// emptyIn is a turn to a state, without a recipe, with so many runs.
func emptyIn(state int64, runs int64, qualified bool) func(t *impl.Tool) {
	return func(t *impl.Tool) {
		*t = tool(state, runs, t.Limit, qualified, t.Approved...)
	}
}

// actCases are all events that may come, in all states where they may; plain tools have one run.
func actCases() []actCase {
	load := func(t *impl.Tool) { t.State, t.Recipe, t.Sum = impl.ToolReady, "strip", -7 }
	run := func(t *impl.Tool) { t.State = impl.ToolRunning }
	return []actCase{
		{impl.ToolOff, impl.ToolPower, emptyIn(impl.ToolIdle, 1, true)},
		{impl.ToolIdle, impl.ToolLoad, load},
		{impl.ToolReady, impl.ToolLoad, load},
		{impl.ToolReady, impl.ToolStart, run},
		{impl.ToolRunning, impl.ToolEnd, emptyIn(impl.ToolIdle, 2, true)},
		{impl.ToolIdle, impl.ToolTrip, emptyIn(impl.ToolAlarm, 1, true)},
		{impl.ToolReady, impl.ToolTrip, emptyIn(impl.ToolAlarm, 1, true)},
		{impl.ToolRunning, impl.ToolTrip, emptyIn(impl.ToolAlarm, 2, true)},
		{impl.ToolAlarm, impl.ToolClear, emptyIn(impl.ToolIdle, 1, true)},
		{impl.ToolIdle, impl.ToolService, emptyIn(impl.ToolDown, 1, false)},
		{impl.ToolAlarm, impl.ToolService, emptyIn(impl.ToolDown, 1, false)},
		{impl.ToolSafe, impl.ToolService, emptyIn(impl.ToolDown, 1, false)},
		{impl.ToolDown, impl.ToolQualify, emptyIn(impl.ToolIdle, 0, true)},
		{impl.ToolOff, impl.ToolFail, emptyIn(impl.ToolSafe, 1, false)},
		{impl.ToolIdle, impl.ToolFail, emptyIn(impl.ToolSafe, 1, false)},
		{impl.ToolReady, impl.ToolFail, emptyIn(impl.ToolSafe, 1, false)},
		{impl.ToolRunning, impl.ToolFail, emptyIn(impl.ToolSafe, 2, false)},
		{impl.ToolAlarm, impl.ToolFail, emptyIn(impl.ToolSafe, 1, false)},
		{impl.ToolDown, impl.ToolFail, emptyIn(impl.ToolSafe, 1, false)},
		{impl.ToolSafe, impl.ToolFail, emptyIn(impl.ToolSafe, 1, false)},
	}
}

func TestToolActOfEveryKindInEveryState(t *testing.T) {
	turns := map[[2]int64]func(t *impl.Tool){}
	for _, c := range actCases() {
		turns[[2]int64{c.state, c.kind}] = c.turn
	}
	for _, state := range toolStates() {
		for kind := int64(1); kind <= 9; kind++ {
			// What is approved comes with every event; it turns none but a load.
			e := impl.ToolEvent{Kind: kind, Recipe: "strip", Sum: -7}
			want := toolCode(impl.ErrForm)
			if turn := turns[[2]int64{state, kind}]; turn != nil {
				want = toolOf(copyTool(plainTool(state)))
				turn(&want.Tool)
			}
			checkAct(t, brief([2]int64{state, kind}), plainTool(state), e, want)
		}
	}
}

func TestToolActOfOtherKinds(t *testing.T) {
	for _, kind := range toolEnds() {
		if kind >= 1 && kind <= 9 {
			continue
		}
		for _, state := range toolStates() {
			checkAct(t, "another kind", plainTool(state), impl.ToolEvent{Kind: kind, Recipe: "etch", Sum: 5}, toolCode(impl.ErrText))
		}
		faulty := tool(1, 0, 0, true)
		checkAct(t, "another kind, to a tool with a fault", faulty, toolEvent(kind), toolCode(impl.ErrRange))
	}
}

func TestToolLoad(t *testing.T) {
	list := approvals(approval("etch", 5), approval("strip", -7), approval("nought", 0))
	idle, unqualified := tool(impl.ToolIdle, 1, 3, true, list...), tool(impl.ToolIdle, 1, 3, false, list...)
	ready := withRecipe(tool(impl.ToolReady, 1, 3, true, list...), "etch", 5)
	for _, a := range list {
		for _, was := range []impl.Tool{idle, ready} {
			want := withRecipe(was, a.Recipe, a.Sum)
			want.State = impl.ToolReady
			checkAct(t, "approved", was, loadOf(a.Recipe, a.Sum), toolOf(want))
		}
		checkAct(t, "not Qualified", unqualified, loadOf(a.Recipe, a.Sum), toolCode(impl.ErrTaken))
	}
	for _, a := range approvals(approval("etch", -7), approval("strip", 5), approval("etch", 0), approval("", 0), approval("", 5), approval("other", 5), approval("Etch", 5), approval("9", 9)) {
		for _, was := range []impl.Tool{idle, ready, unqualified} {
			checkAct(t, "not approved", was, loadOf(a.Recipe, a.Sum), toolCode(impl.ErrNone))
		}
	}
	checkAct(t, "nothing is approved", tool(impl.ToolIdle, 0, 1, true), loadOf("etch", 5), toolCode(impl.ErrNone))
	checkAct(t, "no recipe, nothing is approved", tool(impl.ToolIdle, 0, 1, false), toolEvent(impl.ToolLoad), toolCode(impl.ErrNone))
	for _, state := range numbers(impl.ToolOff, impl.ToolRunning, impl.ToolAlarm, impl.ToolDown, impl.ToolSafe) {
		checkAct(t, "not approved, in another state", plainTool(state), loadOf("other", 5), toolCode(impl.ErrForm))
	}
	for _, state := range numbers(impl.ToolOff, impl.ToolAlarm, impl.ToolDown, impl.ToolSafe) {
		checkAct(t, "not Qualified, in another state", tool(state, 1, 3, false, list...), loadOf("etch", 5), toolCode(impl.ErrForm))
	}
	// A tool whose runs are used up is loaded; it is the start that is not let.
	used := tool(impl.ToolIdle, 3, 3, true, list...)
	checkAct(t, "at the limit", used, loadOf("etch", 5), toolOf(withRecipe(tool(impl.ToolReady, 3, 3, true, list...), "etch", 5)))
}

func TestToolStartAtTheLastRunAndBeyond(t *testing.T) {
	for _, limit := range numbers(1, 2, 999, 1000) {
		for runs := max(0, limit-3); runs <= limit; runs++ {
			ready := withRecipe(tool(impl.ToolReady, runs, limit, true, approval("a", 1)), "a", 1)
			want := toolCode(impl.ErrMany)
			if runs < limit {
				want = toolOf(ready)
				want.Tool.State = impl.ToolRunning
			}
			checkAct(t, "starting", ready, toolEvent(impl.ToolStart), want)
		}
	}
	used := tool(impl.ToolIdle, 3, 3, true, approval("a", 1))
	checkAct(t, "at the limit, not ready", used, toolEvent(impl.ToolStart), toolCode(impl.ErrForm))
}

// However the last run ends, it is counted, and no more than that.
func TestRunsAreCountedHoweverTheyEnd(t *testing.T) {
	for _, limit := range numbers(1, 2, 1000) {
		running := withRecipe(tool(impl.ToolRunning, limit-1, limit, true, approval("a", 1)), "a", 1)
		list := running.Approved
		checkAct(t, "ended", running, toolEvent(impl.ToolEnd), toolOf(tool(impl.ToolIdle, limit, limit, true, list...)))
		checkAct(t, "tripped", running, toolEvent(impl.ToolTrip), toolOf(tool(impl.ToolAlarm, limit, limit, true, list...)))
		checkAct(t, "failed", running, toolEvent(impl.ToolFail), toolOf(tool(impl.ToolSafe, limit, limit, false, list...)))
		ready := withRecipe(tool(impl.ToolReady, limit, limit, true, list...), "a", 1)
		checkAct(t, "tripped ahead of a run", ready, toolEvent(impl.ToolTrip), toolOf(tool(impl.ToolAlarm, limit, limit, true, list...)))
		checkAct(t, "failed ahead of a run", ready, toolEvent(impl.ToolFail), toolOf(tool(impl.ToolSafe, limit, limit, false, list...)))
		down := tool(impl.ToolDown, limit, limit, false, list...)
		checkAct(t, "qualified", down, toolEvent(impl.ToolQualify), toolOf(tool(impl.ToolIdle, 0, limit, true, list...)))
	}
}

// Whether a tool is Qualified is turned by no event but those that say so.
func TestToolStaysUnqualified(t *testing.T) {
	list := approvals(approval("a", 1))
	for _, c := range []struct{ state, kind, now int64 }{
		{impl.ToolOff, impl.ToolPower, impl.ToolIdle}, {impl.ToolIdle, impl.ToolTrip, impl.ToolAlarm}, {impl.ToolAlarm, impl.ToolClear, impl.ToolIdle},
		{impl.ToolIdle, impl.ToolService, impl.ToolDown}, {impl.ToolAlarm, impl.ToolService, impl.ToolDown}, {impl.ToolSafe, impl.ToolService, impl.ToolDown},
		{impl.ToolOff, impl.ToolFail, impl.ToolSafe}, {impl.ToolDown, impl.ToolFail, impl.ToolSafe},
	} {
		checkAct(t, "not Qualified", tool(c.state, 2, 3, false, list...), toolEvent(c.kind), toolOf(tool(c.now, 2, 3, false, list...)))
	}
	// A tool may be down, or safe, and Qualified, where it was handed in so.
	checkAct(t, "serviced", tool(impl.ToolSafe, 2, 3, true, list...), toolEvent(impl.ToolService), toolOf(tool(impl.ToolDown, 2, 3, false, list...)))
	checkAct(t, "qualified", tool(impl.ToolDown, 2, 3, true, list...), toolEvent(impl.ToolQualify), toolOf(tool(impl.ToolIdle, 0, 3, true, list...)))
}

// A tool without a fault has none behind any event.
func TestToolActOfAllSmallTools(t *testing.T) {
	met := map[int64]int{}
	for _, was := range smallTools() {
		kinds := numbers(2)
		if toolFaultWant(was) == impl.OK {
			kinds = numbers(-1, 0, 1, 2, 3, 4, 5, 6, 7, 8, 9, 10)
		}
		for _, kind := range kinds {
			for _, e := range toolEvents(toolEvent(kind), impl.ToolEvent{Kind: kind, Recipe: "a", Sum: 1}, impl.ToolEvent{Kind: kind, Recipe: "b", Sum: 1}) {
				got, want := impl.ToolAct(was, e), actWant(was, e)
				if !sameMadeTool(got, want) || got.Code == impl.OK && impl.ToolFault(got.Tool) != impl.OK {
					t.Fatalf("ToolAct(%v, %v) = %v, want %v", was, e, got, want)
				}
				met[got.Code]++
			}
		}
	}
	for _, code := range numbers(impl.OK, impl.ErrForm, impl.ErrMany, impl.ErrRange, impl.ErrNone, impl.ErrText, impl.ErrTaken) {
		if met[code] < 10 {
			t.Errorf("the codes are %v", met)
		}
	}
}

func TestToolActOfSomeTools(t *testing.T) {
	chance, met := rand.New(rand.NewSource(213)), map[int64]int{}
	for i := range 20000 {
		was := someTool(chance)
		if i%4 == 0 {
			was = spoiledTool(chance, was)
		}
		e := someToolEvent(chance, was)
		got, want := impl.ToolAct(was, e), actWant(was, e)
		if !sameMadeTool(got, want) {
			t.Fatalf("ToolAct(%s, %v) = %s, want %s", brief(was), e, brief(got), brief(want))
		}
		met[got.Code]++
	}
	for _, code := range numbers(impl.OK, impl.ErrForm, impl.ErrMany, impl.ErrRange, impl.ErrNone, impl.ErrText, impl.ErrTaken) {
		if met[code] < 50 {
			t.Errorf("the codes are %v", met)
		}
	}
}
