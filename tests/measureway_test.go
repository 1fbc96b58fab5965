package tests

import (
	"go/ast"
	"go/importer"
	"go/token"
	"go/types"
	"path/filepath"
	"testing"

	"loop.example/g00057/impl"
)

// typesOf tells the type of each expression of the program, and its files by their names.
func typesOf(t *testing.T) (map[ast.Expr]types.TypeAndValue, map[string]*ast.File) {
	t.Helper()
	var all *token.FileSet
	var files []*ast.File
	named := map[string]*ast.File{}
	eachFile(t, func(name string, _ []byte, set *token.FileSet, file *ast.File) {
		all, files, named[filepath.Base(name)] = set, append(files, file), file
	})
	info := &types.Info{Types: map[ast.Expr]types.TypeAndValue{}}
	checker := types.Config{Importer: importer.ForCompiler(all, "source", nil)}
	if _, err := checker.Check("loop.example/g00057/impl", all, files, info); err != nil {
		t.Fatal(err)
	}
	return info.Types, named
}

// The chapter 'Ways' asks it of measures: frames are arrays of their length, compared as values.
func TestFramesAreArraysCompared(t *testing.T) {
	told, files := typesOf(t)
	compared := 0
	ast.Inspect(files["l14_measure.go"], func(n ast.Node) bool {
		pair, ok := n.(*ast.BinaryExpr)
		if !ok || pair.Op != token.EQL && pair.Op != token.NEQ {
			return true
		}
		if list, ok := told[pair.X].Type.Underlying().(*types.Array); ok && list.Len() == impl.FrameLong {
			compared++
		}
		return true
	})
	if compared == 0 {
		t.Error("no arrays of the length of a frame are compared")
	}
}
