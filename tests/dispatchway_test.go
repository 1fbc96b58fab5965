package tests

import (
	"go/ast"
	"go/types"
	"testing"
)

// triesAndSorts counts in a function the ranges over integers, and tells whether it is generic.
func triesAndSorts(told map[ast.Expr]types.TypeAndValue, f *ast.FuncDecl) (ranged int, generic int) {
	ast.Inspect(f, func(n ast.Node) bool {
		if loop, ok := n.(*ast.RangeStmt); ok {
			number, ok := told[loop.X].Type.Underlying().(*types.Basic)
			ranged += int(bit(ok && number.Info()&types.IsInteger != 0))
		}
		return true
	})
	return ranged, int(bit(f.Type.TypeParams != nil))
}

// The chapter 'Ways' asks it of dispatch: jobs are sorted by a generic function; orders are tried by ranges over integers.
func TestJobsAreSortedAndOrdersTried(t *testing.T) {
	told, files := typesOf(t)
	for name, tries := range map[string]bool{"PickJob": false, "RunRule": false, "BestOrder": true, "CheckBest": true, "BatchJobs": false, "FlowOrder": false} {
		ranged, generic := 0, 0
		for _, f := range reachedBy(files["l22_dispatch.go"], name) {
			r, g := triesAndSorts(told, f)
			ranged, generic = ranged+r, generic+g
		}
		if generic == 0 || tries && ranged == 0 {
			t.Errorf("%s: %d functions are generic, %d ranges are over integers", name, generic, ranged)
		}
	}
}
