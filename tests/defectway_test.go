package tests

import (
	"go/ast"
	"go/types"
	"testing"
)

// reachedBy has the functions and methods of a file that a function calls, by their names, and itself.
func reachedBy(file *ast.File, name string) []*ast.FuncDecl {
	named := map[string]*ast.FuncDecl{}
	for _, d := range file.Decls {
		if f, ok := d.(*ast.FuncDecl); ok {
			named[f.Name.Name] = f
		}
	}
	var found []*ast.FuncDecl
	for waiting := []string{name}; len(waiting) > 0; waiting = waiting[1:] {
		f := named[waiting[0]]
		if f == nil {
			continue
		}
		delete(named, waiting[0])
		found = append(found, f)
		ast.Inspect(f, func(n ast.Node) bool {
			if call, ok := n.(*ast.CallExpr); ok {
				waiting = append(waiting, calledName(call))
			}
			return true
		})
	}
	return found
}

// The chapter 'Ways' asks it of defects: clusters and classes stand in maps, which are ranged over and asked.
func TestClustersAndClassesStandInMaps(t *testing.T) {
	told, files := typesOf(t)
	isMap := func(e ast.Expr) bool {
		known, ok := told[e]
		if !ok {
			return false
		}
		_, ok = known.Type.Underlying().(*types.Map)
		return ok
	}
	for _, name := range []string{"ClustersOf", "ClassBook"} {
		ranged, asked := 0, 0
		for _, f := range reachedBy(files["l15_defect.go"], name) {
			ast.Inspect(f, func(n ast.Node) bool {
				switch kind := n.(type) {
				case *ast.RangeStmt:
					ranged += int(bit(isMap(kind.X)))
				case *ast.IndexExpr:
					asked += int(bit(isMap(kind.X)))
				}
				return true
			})
		}
		if ranged == 0 || asked == 0 {
			t.Errorf("%s ranges over %d maps and asks %d", name, ranged, asked)
		}
	}
}
