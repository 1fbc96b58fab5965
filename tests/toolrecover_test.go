package tests

import (
	"math/rand"
	"slices"
	"testing"

	"loop.example/g00057/impl"
)

// checkRecovered asks the plain reckoning, too.
func checkRecovered(t *testing.T, what string, was impl.Tool, want impl.ToolResult) {
	t.Helper()
	checkTool(t, what, impl.RecoverTool(was), want)
	checkTool(t, what+", plainly", recoverWant(was), want)
}

// Of every state, and others, with a recipe and without, Qualified or not: none of it is asked.
func TestRecoverToolOfEveryState(t *testing.T) {
	list := approvals(approval("etch", 5), approval("strip", -7))
	for _, state := range toolEnds() {
		for _, qualified := range []bool{false, true} {
			want := tool(impl.ToolSafe, 2, 3, false, list...)
			switch state {
			case impl.ToolOff:
				want = tool(impl.ToolOff, 2, 3, qualified, list...)
			case impl.ToolDown:
				want.State = impl.ToolDown
			}
			was := tool(state, 2, 3, qualified, list...)
			for _, a := range append(slices.Clone(list), approval("", 0), approval("", 5), approval("etch", 0), approval("other", 9), approval("a b", leastInt)) {
				checkRecovered(t, brief(state), withRecipe(was, a.Recipe, a.Sum), toolOf(want))
			}
		}
	}
}

// A run that was lost is not counted: Runs stay as they were, up to the limit.
func TestRecoverToolKeepsItsRuns(t *testing.T) {
	for _, limit := range numbers(1, 2, 1000) {
		for _, runs := range numbers(0, limit-1, limit) {
			for _, state := range toolStates() {
				got := impl.RecoverTool(tool(state, runs, limit, true, manyApproved(20)...))
				if got.Code != impl.OK || got.Tool.Runs != runs || got.Tool.Limit != limit || !slices.Equal(got.Tool.Approved, manyApproved(20)) {
					t.Errorf("%d of %d runs in state %d: %s", runs, limit, state, brief(got))
				}
			}
		}
	}
}

// What is told of a tool's numbers and approvals is told here, too; the state is not asked ahead of it.
func TestRecoverToolWithAFault(t *testing.T) {
	for _, c := range slices.Concat(toolNumberCases(), approvalCases()) {
		for _, state := range numbers(-1, 0, 1, 2, 3, 4, 5, 6, 7) {
			machine := c.tool
			machine.State = state
			want := toolCode(c.code)
			if c.code == impl.OK {
				want = recoverWant(machine)
			}
			checkRecovered(t, c.name, machine, want)
		}
	}
	for _, c := range recipeStateCases() {
		if got := impl.RecoverTool(c.tool); got.Code != impl.OK {
			t.Errorf("%s: the code is %d", c.name, got.Code)
		}
	}
	for _, name := range wrongNames() {
		checkRecovered(t, "a wrong name", tool(7, 0, 5, true, approval("a", 1), approval(name, 1)), toolCode(impl.ErrForm))
	}
	checkRecovered(t, "runs, then too many", tool(7, -1, 5, true, manyApproved(21)...), toolCode(impl.ErrRange))
	checkRecovered(t, "too many, then a name", tool(7, 0, 5, true, make([]impl.Approval, 21)...), toolCode(impl.ErrMany))
}

// checkIsAtRest: behind a loss of power a tool is off, down or safe, without a recipe and without a fault; again lost, it is the same.
func checkIsAtRest(t *testing.T, was impl.Tool) impl.ToolResult {
	t.Helper()
	got, want := impl.RecoverTool(was), recoverWant(was)
	if !sameMadeTool(got, want) {
		t.Fatalf("RecoverTool(%s) = %s, want %s", brief(was), brief(got), brief(want))
	}
	if got.Code != impl.OK {
		return got
	}
	found := got.Tool
	if !slices.Contains(numbers(impl.ToolOff, impl.ToolDown, impl.ToolSafe), found.State) || found.Recipe != "" || found.Sum != 0 || impl.ToolFault(found) != impl.OK {
		t.Fatalf("RecoverTool(%s) = %s", brief(was), brief(got))
	}
	if again := impl.RecoverTool(found); !sameMadeTool(again, got) {
		t.Fatalf("RecoverTool(%s) = %s, and again %s", brief(was), brief(got), brief(again))
	}
	return got
}

func TestRecoverToolOfAllSmallTools(t *testing.T) {
	for _, was := range smallTools() {
		checkIsAtRest(t, was)
	}
}

func TestRecoverToolOfSomeTools(t *testing.T) {
	chance, met := rand.New(rand.NewSource(218)), map[int64]int{}
	for i := range 10000 {
		was := someTool(chance)
		if i%2 == 0 {
			was = spoiledTool(chance, was)
		}
		met[checkIsAtRest(t, was).Code]++
	}
	for _, code := range numbers(impl.OK, impl.ErrForm, impl.ErrMany, impl.ErrRange) {
		if met[code] < 100 {
			t.Errorf("the codes are %v", met)
		}
	}
}

// A tool that lost its power while it was on runs nothing ahead of a service and of being qualified.
func TestNothingRunsAheadOfAService(t *testing.T) {
	chance, ran := rand.New(rand.NewSource(219)), 0
	for range 3000 {
		was := someTool(chance)
		found := impl.RecoverTool(was).Tool
		events := someToolEvents(chance, found, 60)
		log := checkNothingRunsThatMayNot(t, found, events)
		ran += len(log.Runs)
		qualified := found.Qualified
		for i, e := range events {
			qualified = qualified || e.Kind == impl.ToolQualify && log.Codes[i] == impl.OK
			if e.Kind == impl.ToolStart && log.Codes[i] == impl.OK && !qualified {
				t.Fatalf("%s, found as %s, runs at %d of %v", brief(was), brief(found), i, events)
			}
		}
	}
	if ran < 300 {
		t.Errorf("%d runs", ran)
	}
}
