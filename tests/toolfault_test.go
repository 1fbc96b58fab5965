package tests

import (
	"math/rand"
	"testing"

	"loop.example/g00057/impl"
)

// toolCase is a tool and its fault.
type toolCase struct {
	name string
	tool impl.Tool
	code int64
}

func toolNumberCases() []toolCase {
	return []toolCase{
		{"nothing", impl.Tool{}, impl.ErrRange},
		{"bare", tool(0, 0, 1, false), impl.OK},
		{"Limit of 0", tool(1, 0, 0, true), impl.ErrRange},
		{"Limit of 1", tool(1, 0, 1, true), impl.OK},
		{"Limit of 1000", tool(1, 0, 1000, true), impl.OK},
		{"Limit of 1001", tool(1, 0, 1001, true), impl.ErrRange},
		{"Limit below 0", tool(1, 0, -1, true), impl.ErrRange},
		{"Limit and Runs below 0", tool(1, -2, -1, true), impl.ErrRange},
		{"Runs of -1", tool(1, -1, 5, true), impl.ErrRange},
		{"Runs of 0", tool(1, 0, 5, true), impl.OK},
		{"Runs one fewer than Limit", tool(1, 4, 5, true), impl.OK},
		{"Runs at Limit", tool(1, 5, 5, true), impl.OK},
		{"one more", tool(1, 6, 5, true), impl.ErrRange},
		{"Runs at the greatest Limit", tool(1, 1000, 1000, true), impl.OK},
		{"beyond the greatest Limit", tool(1, 1001, 1001, true), impl.ErrRange},
		{"the least Runs", tool(1, leastInt, 5, true), impl.ErrRange},
		{"the greatest of both", tool(1, greatestInt, greatestInt, true), impl.ErrRange},
	}
}

func approvalCases() []toolCase {
	long := approval("a23456789012345x", 1)
	return []toolCase{
		{"one fewer than MaxApproved", tool(1, 0, 5, true, manyApproved(19)...), impl.OK},
		{"MaxApproved", tool(1, 0, 5, true, manyApproved(20)...), impl.OK},
		{"one more", tool(1, 0, 5, true, manyApproved(21)...), impl.ErrMany},
		{"far too many", tool(1, 0, 5, true, manyApproved(10000)...), impl.ErrMany},
		{"one more, all of one name", tool(1, 0, 5, true, longer(manyApproved(1), 21)...), impl.ErrMany},
		{"one more, all wrong", tool(1, 0, 5, true, make([]impl.Approval, 21)...), impl.ErrMany},
		{"16 bytes", tool(1, 0, 5, true, long), impl.OK},
		{"17 bytes", tool(1, 0, 5, true, approval(long.Recipe+"x", 1)), impl.ErrForm},
		{"sums of any size", tool(1, 0, 5, true, approval("a", leastInt), approval("b", greatestInt), approval("c", 0), approval("d", -1)), impl.OK},
		{"one sum twice", tool(1, 0, 5, true, approval("a", 1), approval("b", 1)), impl.OK},
		{"one name twice", tool(1, 0, 5, true, approval("a", 1), approval("a", 1)), impl.ErrForm},
		{"one name twice, other sums", tool(1, 0, 5, true, approval("a", 1), approval("b", 1), approval("a", 2)), impl.ErrForm},
		{"the first of MaxApproved again at the end", tool(1, 0, 5, true, append(manyApproved(19), approval("r0", 0))...), impl.ErrForm},
		{"the last but one again at the end", tool(1, 0, 5, true, append(manyApproved(19), approval("r18", 0))...), impl.ErrForm},
		{"names that differ by a letter's size", tool(1, 0, 5, true, approval("a", 1), approval("A", 1)), impl.OK},
	}
}

// recipeStateCases have what a tool with a recipe needs, and what others may not have.
func recipeStateCases() []toolCase {
	list := approvals(approval("etch", 5), approval("strip", -7), approval("nought", 0))
	var cases []toolCase
	for state := range int64(7) {
		of := func(name string, right bool, t impl.Tool) {
			cases = append(cases, toolCase{name, t, impl.ErrForm * bit(!right)})
		}
		with := hasRecipe(state)
		of("approved", with, withRecipe(tool(state, 1, 3, true, list...), "etch", 5))
		of("the second", with, withRecipe(tool(state, 1, 3, true, list...), "strip", -7))
		of("the last, with the sum 0", with, withRecipe(tool(state, 1, 3, true, list...), "nought", 0))
		of("no recipe", !with, tool(state, 1, 3, true, list...))
		of("no recipe, not Qualified", !with, tool(state, 1, 3, false, list...))
		of("no recipe, Runs at Limit", !with, tool(state, 3, 3, true, list...))
		of("no recipe, but a sum", false, withRecipe(tool(state, 1, 3, true, list...), "", 5))
		of("a recipe, and no sum", false, withRecipe(tool(state, 1, 3, true, list...), "etch", 0))
		of("a sum below 0", false, withRecipe(tool(state, 1, 3, true, list...), "", -1))
		of("of one the recipe, of another the sum", false, withRecipe(tool(state, 1, 3, true, list...), "etch", -7))
		of("a recipe that is not approved", false, withRecipe(tool(state, 1, 3, true, list...), "other", 5))
		of("a recipe of other letters", false, withRecipe(tool(state, 1, 3, true, list...), "Etch", 5))
		of("nothing approved", false, withRecipe(tool(state, 1, 3, true), "etch", 5))
		of("a recipe, not Qualified", false, withRecipe(tool(state, 1, 3, false, list...), "etch", 5))
		of("a recipe, one run fewer than Limit", with, withRecipe(tool(state, 2, 3, true, list...), "etch", 5))
		of("a recipe, Runs at Limit", state == impl.ToolReady, withRecipe(tool(state, 3, 3, true, list...), "etch", 5))
	}
	return cases
}

func TestToolFaultByHand(t *testing.T) {
	for _, cases := range [][]toolCase{toolNumberCases(), approvalCases(), recipeStateCases()} {
		for _, c := range cases {
			checkToolFault(t, c.name, c.tool, c.code)
		}
	}
	for _, state := range toolStates() {
		checkToolFault(t, "plain", plainTool(state), impl.OK)
	}
	for _, name := range wrongNames() {
		for i := range 3 {
			machine := tool(1, 0, 5, true, manyApproved(3)...)
			machine.Approved[i].Recipe = name
			checkToolFault(t, "a wrong name", machine, impl.ErrForm)
		}
	}
}

func TestToolFaultOfEveryState(t *testing.T) {
	for _, state := range toolEnds() {
		right := state >= 0 && state <= 6
		checkToolFault(t, "with nothing", tool(state, 0, 5, true), impl.ErrForm*bit(!right || hasRecipe(state)))
		checkToolFault(t, "with a recipe", withRecipe(tool(state, 0, 5, true, approval("a", 1)), "a", 1), impl.ErrForm*bit(!hasRecipe(state)))
	}
}

// toolSpoil turns one thing of a tool that plainTool answers.
type toolSpoil struct {
	code  int64
	spoil func(t *impl.Tool)
}

// toolSpoils stand in the order in which they are told.
func toolSpoils() []toolSpoil {
	return []toolSpoil{
		{impl.ErrForm, func(t *impl.Tool) { t.State = 7 }},
		{impl.ErrRange, func(t *impl.Tool) { t.Limit = 1001 }},
		{impl.ErrRange, func(t *impl.Tool) { t.Runs = -1 }},
		{impl.ErrMany, func(t *impl.Tool) { t.Approved = append(t.Approved, manyApproved(19)...) }},
		{impl.ErrForm, func(t *impl.Tool) { t.Approved[1].Recipe = "9" }},
		{impl.ErrForm, func(t *impl.Tool) { t.Approved[1].Recipe = "etch" }},
		{impl.ErrForm, func(t *impl.Tool) { t.Sum++ }},
		{impl.ErrForm, func(t *impl.Tool) { t.Recipe += "x" }},
	}
}

func TestToolFaultsInTheirOrder(t *testing.T) {
	for _, state := range toolStates() {
		for i, first := range toolSpoils() {
			for _, second := range toolSpoils()[i:] {
				machine := copyTool(plainTool(state))
				second.spoil(&machine)
				first.spoil(&machine)
				checkToolFault(t, "two faults", machine, first.code)
			}
		}
	}
}

func TestToolFaultOfAllSmallTools(t *testing.T) {
	right := 0
	for _, machine := range smallTools() {
		got, want := impl.ToolFault(machine), toolFaultWant(machine)
		if got != want {
			t.Fatalf("the fault of %v is %d, want %d", machine, got, want)
		}
		right += int(bit(got == impl.OK))
	}
	if right < 100 {
		t.Errorf("%d tools have no fault", right)
	}
}

func TestToolFaultOfSomeTools(t *testing.T) {
	chance, met := rand.New(rand.NewSource(211)), map[int64]int{}
	for range 20000 {
		machine := someTool(chance)
		if code := impl.ToolFault(machine); code != impl.OK {
			t.Fatalf("%s has the fault %d", brief(machine), code)
		}
		machine = spoiledTool(chance, machine)
		got, want := impl.ToolFault(machine), toolFaultWant(machine)
		if got != want {
			t.Fatalf("the fault of %s is %d, want %d", brief(machine), got, want)
		}
		met[got]++
	}
	for _, code := range numbers(impl.OK, impl.ErrForm, impl.ErrMany, impl.ErrRange) {
		if met[code] < 500 {
			t.Errorf("the codes are %v", met)
		}
	}
}

func TestIsApprovedByHand(t *testing.T) {
	list := approvals(approval("etch", 5), approval("strip", -7), approval("", 0), approval("a b", 1), approval("etch", 6))
	// None of these tools is right: what else they have is not asked.
	for _, machine := range []impl.Tool{{Approved: list}, {State: 77, Runs: -1, Recipe: "other", Sum: 9, Approved: list}, {Approved: append(manyApproved(30), list...)}} {
		for _, a := range list {
			if !impl.IsApproved(machine, a.Recipe, a.Sum) {
				t.Errorf("%v is not approved in %s", a, brief(machine))
			}
		}
		for _, a := range approvals(approval("etch", -7), approval("strip", 5), approval("etch", 0), approval("", 5), approval("Etch", 5), approval("etc", 5), approval("etch ", 5), approval("other", 9)) {
			if impl.IsApproved(machine, a.Recipe, a.Sum) {
				t.Errorf("%v is approved in %s", a, brief(machine))
			}
		}
	}
	if impl.IsApproved(impl.Tool{}, "", 0) || impl.IsApproved(withRecipe(tool(2, 0, 5, true), "a", 1), "a", 1) {
		t.Error("what a tool has is approved without an approval")
	}
}

func TestIsApprovedOfSomeTools(t *testing.T) {
	chance, held := rand.New(rand.NewSource(212)), 0
	for i := range 10000 {
		machine := someTool(chance)
		if i%2 == 0 {
			machine = spoiledTool(chance, machine)
		}
		e := someToolEvent(chance, machine)
		got := impl.IsApproved(machine, e.Recipe, e.Sum)
		if got != approvedWant(machine, e.Recipe, e.Sum) {
			t.Fatalf("%v in %s: %t", e, brief(machine), got)
		}
		held += int(bit(got))
	}
	if held < 1000 || held > 9000 {
		t.Errorf("%d are approved", held)
	}
}
