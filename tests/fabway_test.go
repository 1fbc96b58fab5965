package tests

import (
	"go/ast"
	"go/types"
	"slices"
	"strings"
	"testing"
)

// methodExpressions counts those in a piece of the program.
func methodExpressions(told map[ast.Expr]types.TypeAndValue, n ast.Node) int {
	count := 0
	ast.Inspect(n, func(n ast.Node) bool {
		if picked, ok := n.(*ast.SelectorExpr); ok {
			_, isFunction := told[picked].Type.(*types.Signature)
			count += int(bit(isFunction && told[picked.X].IsType()))
		}
		return true
	})
	return count
}

// registeredNames are those that the init functions of a file hand on, each beside a method expression.
func registeredNames(t *testing.T, told map[ast.Expr]types.TypeAndValue, file *ast.File) []string {
	var names []string
	for _, d := range file.Decls {
		f, ok := d.(*ast.FuncDecl)
		if !ok {
			continue
		}
		ast.Inspect(f, func(n ast.Node) bool {
			call, ok := n.(*ast.CallExpr)
			if !ok || calledName(call) != "register" {
				return true
			}
			name, ok := call.Args[0].(*ast.BasicLit)
			if f.Name.Name != "init" || !ok || methodExpressions(told, call) != 1 {
				t.Errorf("%s registers what is no name with one method expression", f.Name.Name)
				return true
			}
			names = append(names, strings.Trim(name.Value, `"`))
			return true
		})
	}
	return names
}

// The chapter 'Ways' asks it of the fab: commands are registered by init functions, by name, as method expressions.
func TestCommandsAreRegistered(t *testing.T) {
	told, files := typesOf(t)
	names := registeredNames(t, told, files["l24_fab.go"])
	var want []string
	for _, line := range commandLines() {
		want = append(want, strings.Fields(line)[0])
	}
	slices.Sort(names)
	slices.Sort(want)
	if !slices.Equal(names, want) {
		t.Errorf("registered are %v, want %v", names, want)
	}
}

// The table of commands is written into by what init functions call alone: by no call of the document's.
func TestCommandsStayAsTheyAreRegistered(t *testing.T) {
	_, files := typesOf(t)
	written := 0
	for _, d := range files["l24_fab.go"].Decls {
		f, ok := d.(*ast.FuncDecl)
		if !ok {
			continue
		}
		ast.Inspect(f, func(n ast.Node) bool {
			change, ok := n.(*ast.AssignStmt)
			if !ok {
				return true
			}
			for _, left := range change.Lhs {
				if place, ok := left.(*ast.IndexExpr); ok {
					left = place.X
				}
				if table, ok := left.(*ast.Ident); ok && table.Name == "commands" {
					written++
					if f.Name.Name != "register" {
						t.Errorf("%s writes into the table", f.Name.Name)
					}
				}
			}
			return true
		})
	}
	if written != 1 {
		t.Errorf("the table is written in %d places", written)
	}
}

// The chapter asks it, too, that a line is gone through with labels.
func TestLinesAreGoneThroughWithLabels(t *testing.T) {
	_, files := typesOf(t)
	for _, name := range []string{"StepFab", "RunFab", "ReadFab"} {
		labels, led := map[string]bool{}, 0
		for _, f := range reachedBy(files["l24_fab.go"], name) {
			ast.Inspect(f, func(n ast.Node) bool {
				switch kind := n.(type) {
				case *ast.LabeledStmt:
					labels[kind.Label.Name] = true
				case *ast.BranchStmt:
					led += int(bit(kind.Label != nil && labels[kind.Label.Name]))
				}
				return true
			})
		}
		if led == 0 {
			t.Errorf("%s goes through no line with a label", name)
		}
	}
}
