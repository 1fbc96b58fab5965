package tests

import (
	"math/rand"
	"slices"
	"testing"

	"loop.example/g00057/impl"
)

// checkApproved asks the plain reckoning, too.
func checkApproved(t *testing.T, what string, was impl.Tool, r impl.Recipe, want impl.ToolResult) {
	t.Helper()
	checkTool(t, what, impl.ApproveRecipe(was, r), want)
	checkTool(t, what+", plainly", approveWant(was, r), want)
}

// etchRecipe is the one whose sum the stage before told.
func etchRecipe() impl.Recipe {
	return recipe("etch", params(param("p", 1, 9, 4)), recipeStep("a", ref("p"), set("gas", num(3))))
}

const etchSum = 966286845

func TestApproveRecipeByHand(t *testing.T) {
	told := approval("etch", etchSum)
	checkApproved(t, "the first", tool(0, 0, 1, false), etchRecipe(), toolOf(tool(0, 0, 1, false, told)))
	other := approvals(approval("a", 1), approval("b", 2))
	checkApproved(t, "behind the others", tool(1, 1, 3, true, other...), etchRecipe(), toolOf(tool(1, 1, 3, true, append(slices.Clone(other), told)...)))
	checkApproved(t, "names that are near", tool(1, 0, 3, true, approval("Etch", 1), approval("etc", 2), approval("etch2", 3)), etchRecipe(),
		toolOf(tool(1, 0, 3, true, approval("Etch", 1), approval("etc", 2), approval("etch2", 3), told)))
	checkApproved(t, "approved as it is", tool(1, 0, 3, true, told), etchRecipe(), toolOf(tool(1, 0, 3, true, told)))
	for i := range 3 {
		list := manyApproved(3)
		list[i].Recipe = "etch"
		want := slices.Clone(list)
		want[i] = told
		checkApproved(t, "in its place", tool(1, 1, 3, true, list...), etchRecipe(), toolOf(tool(1, 1, 3, true, want...)))
	}
}

func TestApproveRecipeInEachState(t *testing.T) {
	for _, state := range toolStates() {
		for _, r := range []impl.Recipe{etchRecipe(), recipe("other", nil)} {
			was := plainTool(state)
			want := approveWant(was, r)
			if hasRecipe(state) {
				want = toolCode(impl.ErrTaken)
			} else if want.Code != impl.OK || want.Tool.State != state || want.Tool.Runs != 1 || !want.Tool.Qualified {
				t.Errorf("the plain reckoning in state %d: %v", state, want)
			}
			checkApproved(t, "plain", was, r, want)
		}
		if !hasRecipe(state) {
			checkApproved(t, "at the limit, not Qualified", tool(state, 3, 3, false), etchRecipe(), toolOf(tool(state, 3, 3, false, approval("etch", etchSum))))
		}
	}
}

func TestApproveRecipeWithManyApproved(t *testing.T) {
	told := approval("etch", etchSum)
	for _, n := range numbersOf(18, 19, 20) {
		list := manyApproved(n)
		want := toolCode(impl.ErrMany)
		if n < 20 {
			want = toolOf(tool(1, 0, 1, true, append(slices.Clone(list), told)...))
		}
		checkApproved(t, "a new name", tool(1, 0, 1, true, list...), etchRecipe(), want)
		for _, i := range numbersOf(0, n/2, n-1) {
			list, there := manyApproved(n), manyApproved(n)
			list[i].Recipe, there[i] = "etch", told
			checkApproved(t, "a name that stands there", tool(1, 0, 1, true, list...), etchRecipe(), toolOf(tool(1, 0, 1, true, there...)))
		}
	}
	checkApproved(t, "one more already", tool(1, 0, 1, true, manyApproved(21)...), etchRecipe(), toolCode(impl.ErrMany))
}

func TestApproveRecipeWithAFault(t *testing.T) {
	wrong := []struct {
		r    impl.Recipe
		code int64
	}{
		{impl.Recipe{}, impl.ErrForm},
		{recipe("a", nil, recipeStep("s", num(-1))), impl.ErrRange},
		{recipe("a", nil, recipeStep("s", ref("p"))), impl.ErrNone},
		{recipe("a", make([]impl.Param, 21)), impl.ErrMany},
		{longRecipe(4001), impl.ErrMany},
		{fullRecipe(), impl.ErrMany},
	}
	for _, c := range wrong {
		// What is wrong with the recipe is told ahead of the state and of too many approvals, and behind what is wrong with the tool.
		for _, state := range toolStates() {
			checkApproved(t, "in a state", plainTool(state), c.r, toolCode(c.code))
		}
		checkApproved(t, "with MaxApproved", tool(1, 0, 1, true, manyApproved(20)...), c.r, toolCode(c.code))
		checkApproved(t, "with a fault of the tool", tool(7, 0, 1, true), c.r, toolCode(impl.ErrForm))
		checkApproved(t, "with another fault of the tool", tool(1, 0, 0, true), c.r, toolCode(impl.ErrRange))
	}
	full := append(manyApproved(19), approval("etch", 5))
	for _, state := range numbers(impl.ToolReady, impl.ToolRunning) {
		checkApproved(t, "taken, with MaxApproved", withRecipe(tool(state, 0, 1, true, full...), "etch", 5), recipe("a", nil), toolCode(impl.ErrTaken))
		checkApproved(t, "taken by itself", withRecipe(tool(state, 0, 1, true, full...), "etch", 5), etchRecipe(), toolCode(impl.ErrTaken))
	}
	checkApproved(t, "a text of 4000 bytes", tool(1, 0, 1, true), longRecipe(4000), toolOf(tool(1, 0, 1, true, approval("r", recipeSumWant(longRecipe(4000)).Value))))
}

// A recipe that is changed has another sum: what was approved is so no more, and it is told at the load.
func TestChangedRecipeIsApprovedAnew(t *testing.T) {
	old := impl.ApproveRecipe(tool(impl.ToolIdle, 0, 9, true), etchRecipe()).Tool
	changed := etchRecipe()
	changed.Steps[0].Settings[0].Value = num(4)
	sum := impl.SumOfRecipe(changed).Value
	checkAct(t, "not approved yet", old, loadOf("etch", sum), toolCode(impl.ErrNone))
	now := impl.ApproveRecipe(old, changed).Tool
	checkAct(t, "not approved any more", now, loadOf("etch", etchSum), toolCode(impl.ErrNone))
	log := impl.RunTool(now, oneRun("etch", sum))
	checkLog(t, "the new one", log, toolLog(tool(impl.ToolIdle, 1, 9, true, approval("etch", sum)), numbers(0, 0, 0), approval("etch", sum)))
	if impl.CheckRuns(old, log) || !impl.CheckRuns(now, log) {
		t.Error("the runs of the new recipe are held against the old one")
	}
}

// Behind an approval the tool has no fault, the recipe is approved with its sum, and no other one was turned.
func TestApproveRecipeOfSomeTools(t *testing.T) {
	chance, met := rand.New(rand.NewSource(217)), map[int64]int{}
	for i := range 3000 {
		was, r := someTool(chance), someRecipe(chance, 1+i%12)
		if i%3 == 0 && len(was.Approved) > 0 {
			r.Name = was.Approved[chance.Intn(len(was.Approved))].Recipe
		}
		switch i % 5 {
		case 1:
			was = spoiledTool(chance, was)
		case 2:
			r = spoiledRecipe(chance, r)
		case 3:
			was.Approved = append(was.Approved, manyApproved(40)[20:40-len(was.Approved)]...)
		}
		got, want := impl.ApproveRecipe(was, r), approveWant(was, r)
		if !sameMadeTool(got, want) {
			t.Fatalf("ApproveRecipe(%s, %s) = %s, want %s", brief(was), brief(r), brief(got), brief(want))
		}
		met[got.Code]++
		if got.Code != impl.OK {
			continue
		}
		kept := slices.DeleteFunc(slices.Clone(was.Approved), func(a impl.Approval) bool { return a.Recipe == r.Name })
		rest := slices.DeleteFunc(slices.Clone(got.Tool.Approved), func(a impl.Approval) bool { return a.Recipe == r.Name })
		if impl.ToolFault(got.Tool) != impl.OK || !impl.IsApproved(got.Tool, r.Name, impl.SumOfRecipe(r).Value) || !slices.Equal(kept, rest) {
			t.Fatalf("ApproveRecipe(%s, %s) = %s", brief(was), brief(r), brief(got))
		}
	}
	for _, code := range numbers(impl.OK, impl.ErrForm, impl.ErrMany, impl.ErrRange, impl.ErrTaken) {
		if met[code] < 30 {
			t.Errorf("the codes are %v", met)
		}
	}
}
