package tests

import (
	"go/ast"
	"go/token"
	"go/types"
	"testing"
)

// talks counts in a function the selects in which something is said over a channel, and the channels that are closed.
func talks(told map[ast.Expr]types.TypeAndValue, f *ast.FuncDecl) (selected int, closed int) {
	isChannel := func(e ast.Expr) bool {
		_, ok := told[e].Type.Underlying().(*types.Chan)
		return ok
	}
	ast.Inspect(f, func(n ast.Node) bool {
		switch kind := n.(type) {
		case *ast.CommClause:
			if said, ok := kind.Comm.(*ast.SendStmt); ok && isChannel(said.Chan) {
				selected++
			}
		case *ast.CallExpr:
			if calledName(kind) == "close" && isChannel(kind.Args[0]) {
				closed++
			}
		}
		return true
	})
	return selected, closed
}

// The chapter 'Ways' asks it of clusters: robot and chambers speak over channels, by select, and are closed at the end.
func TestRobotAndChambersSpeak(t *testing.T) {
	told, files := typesOf(t)
	for _, name := range []string{"MakeSchedule", "CheckSchedule"} {
		selected, closed := 0, 0
		for _, f := range reachedBy(files["l20_cluster.go"], name) {
			s, c := talks(told, f)
			selected, closed = selected+s, closed+c
		}
		if selected == 0 || closed == 0 {
			t.Errorf("%s: %d selects speak over a channel, %d channels are closed", name, selected, closed)
		}
	}
}

// Whoever is ready first may not be seen: a select has one channel, or what it does when that is not ready.
func TestNoSelectHasAChoice(t *testing.T) {
	eachFile(t, func(name string, _ []byte, set *token.FileSet, file *ast.File) {
		ast.Inspect(file, func(n ast.Node) bool {
			one, ok := n.(*ast.SelectStmt)
			if !ok {
				return true
			}
			spoken := 0
			for _, clause := range one.Body.List {
				spoken += int(bit(clause.(*ast.CommClause).Comm != nil))
			}
			if spoken != 1 {
				t.Errorf("%s: %s: a select over %d channels", name, set.Position(one.Pos()), spoken)
			}
			return true
		})
	})
}
