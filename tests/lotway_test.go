package tests

import (
	"go/ast"
	"go/types"
	"testing"
)

// byId counts in a function the maps by numbers that are asked or stored into, and what is deleted from such.
func byId(told map[ast.Expr]types.TypeAndValue, f *ast.FuncDecl) (asked int, deleted int) {
	isById := func(e ast.Expr) bool {
		table, ok := told[e].Type.Underlying().(*types.Map)
		if !ok {
			return false
		}
		key, ok := table.Key().Underlying().(*types.Basic)
		return ok && key.Kind() == types.Int64
	}
	ast.Inspect(f, func(n ast.Node) bool {
		switch kind := n.(type) {
		case *ast.IndexExpr:
			asked += int(bit(isById(kind.X)))
		case *ast.CallExpr:
			deleted += int(bit(calledName(kind) == "delete" && isById(kind.Args[0])))
		}
		return true
	})
	return asked, deleted
}

// The chapter 'Ways' asks it of lots: books are maps by id; lots that are merged are deleted from them.
func TestBooksAreMapsById(t *testing.T) {
	told, files := typesOf(t)
	for _, name := range []string{"StartLot", "SplitLot", "MergeLots", "HoldLot", "ScrapWafer", "StepLot", "WindowLeft", "FindWafer", "LineageOf"} {
		asked, deleted := 0, 0
		for _, f := range reachedBy(files["l21_lot.go"], name) {
			a, d := byId(told, f)
			asked, deleted = asked+a, deleted+d
		}
		if asked == 0 || name == "MergeLots" && deleted == 0 {
			t.Errorf("%s: maps by id are asked %d times, %d times something is deleted from one", name, asked, deleted)
		}
	}
}
