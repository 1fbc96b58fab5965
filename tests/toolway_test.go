package tests

import (
	"go/ast"
	"go/types"
	"testing"
)

// abilities counts the assertions to interfaces with methods in a function, and its method values.
func abilities(told map[ast.Expr]types.TypeAndValue, f *ast.FuncDecl) (asserted int, valued int) {
	called := map[ast.Expr]bool{}
	ast.Inspect(f, func(n ast.Node) bool {
		switch kind := n.(type) {
		case *ast.CallExpr:
			called[kind.Fun] = true
		case *ast.TypeAssertExpr:
			if kind.Type != nil {
				face, ok := told[kind.Type].Type.Underlying().(*types.Interface)
				asserted += int(bit(ok && face.NumMethods() > 0))
			}
		case *ast.SelectorExpr:
			_, ok := told[kind].Type.(*types.Signature)
			valued += int(bit(ok && !called[kind] && told[kind.X].IsValue()))
		}
		return true
	})
	return asserted, valued
}

// The chapter 'Ways' asks it of tools: what they can do are interfaces, asked by an assertion; events are method values.
func TestWhatToolsCanDoIsAsked(t *testing.T) {
	told, files := typesOf(t)
	asserted, valued := 0, 0
	for _, f := range reachedBy(files["l19_tool.go"], "ToolAct") {
		a, v := abilities(told, f)
		asserted, valued = asserted+a, valued+v
	}
	// Load, measure and be qualified at the least; each event is one.
	if asserted < 3 || valued < 9 {
		t.Errorf("%d abilities are asked, %d events are method values", asserted, valued)
	}
}
