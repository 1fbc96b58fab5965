package tests

import (
	"go/ast"
	"go/token"
	"path/filepath"
	"testing"
)

// isIterator tells whether a function answers an iterator, and nothing else.
func isIterator(f *ast.FuncDecl) bool {
	if f.Type.Results == nil || len(f.Type.Results.List) != 1 {
		return false
	}
	result := f.Type.Results.List[0].Type
	for {
		switch kind := result.(type) {
		case *ast.IndexExpr:
			result = kind.X
		case *ast.IndexListExpr:
			result = kind.X
		case *ast.SelectorExpr:
			from, ok := kind.X.(*ast.Ident)
			return ok && from.Name == "iter"
		default:
			return false
		}
	}
}

func answersClosure(f *ast.FuncDecl) bool {
	found := false
	ast.Inspect(f, func(n ast.Node) bool {
		if back, ok := n.(*ast.ReturnStmt); ok && len(back.Results) == 1 {
			_, closure := back.Results[0].(*ast.FuncLit)
			found = found || closure
		}
		return true
	})
	return found
}

// calledName is the name of the function or method that an expression calls; else it is empty.
func calledName(e ast.Expr) string {
	call, ok := e.(*ast.CallExpr)
	if !ok {
		return ""
	}
	switch called := call.Fun.(type) {
	case *ast.Ident:
		return called.Name
	case *ast.SelectorExpr:
		return called.Sel.Name
	}
	return ""
}

// The chapter 'Ways' asks it of profiles: depths are an iterator that is ranged over, and it is a closure.
func TestDepthsAreAnIterator(t *testing.T) {
	eachFile(t, func(name string, _ []byte, _ *token.FileSet, file *ast.File) {
		if filepath.Base(name) != "l13_profile.go" {
			return
		}
		iterators, ranged := map[string]int{}, 0
		for _, d := range file.Decls {
			if f, ok := d.(*ast.FuncDecl); ok && isIterator(f) && answersClosure(f) {
				iterators[f.Name.Name]++
			}
		}
		ast.Inspect(file, func(n ast.Node) bool {
			if r, ok := n.(*ast.RangeStmt); ok {
				ranged += iterators[calledName(r.X)]
			}
			return true
		})
		if len(iterators) == 0 || ranged == 0 {
			t.Errorf("%d iterators are closures, and %d are ranged over", len(iterators), ranged)
		}
	})
}
