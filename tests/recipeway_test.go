package tests

import (
	"go/ast"
	"go/types"
	"testing"
)

// The chapter 'Ways' asks it of recipes: a line is scanned rune by rune, and what is wrong is an error that is asked by errors.As.
func TestLinesOfRecipesAreScannedByRunes(t *testing.T) {
	told, files := typesOf(t)
	scanned, asked := 0, 0
	for _, f := range reachedBy(files["l17_recipe.go"], "ParseRecipe") {
		ast.Inspect(f, func(n ast.Node) bool {
			switch kind := n.(type) {
			case *ast.RangeStmt:
				basic, ok := told[kind.X].Type.Underlying().(*types.Basic)
				scanned += int(bit(ok && basic.Kind() == types.String && kind.Value != nil))
			case *ast.CallExpr:
				asked += int(bit(calledName(kind) == "As"))
			}
			return true
		})
	}
	if scanned == 0 || asked == 0 {
		t.Errorf("%d lines are scanned rune by rune, %d errors are asked", scanned, asked)
	}
}
