package tests

import (
	"go/ast"
	"go/token"
	"go/types"
	"testing"
)

// sharedWays counts in a function the goroutines that it starts, the counts of an atomic counter and what is done once.
func sharedWays(told map[ast.Expr]types.TypeAndValue, f *ast.FuncDecl) (started int, counted int, once int) {
	isOf := func(e ast.Expr, name string) bool {
		known, ok := told[e]
		return ok && types.TypeString(known.Type, nil) == name
	}
	ast.Inspect(f, func(n ast.Node) bool {
		switch kind := n.(type) {
		case *ast.GoStmt:
			started++
		case *ast.CallExpr:
			if called, ok := kind.Fun.(*ast.SelectorExpr); ok {
				counted += int(bit(called.Sel.Name == "Add" && isOf(called.X, "sync/atomic.Int64")))
				once += int(bit(called.Sel.Name == "Do" && isOf(called.X, "sync.Once")))
			}
		}
		return true
	})
	return started, counted, once
}

// The chapter 'Ways' asks it of tests: marches run side by side, counted by an atomic counter; tables of faults are made once.
func TestMarchesRunSideBySide(t *testing.T) {
	told, files := typesOf(t)
	for name, runs := range map[string]bool{"CoverMarch": true, "FaultsOf": false} {
		started, counted, once := 0, 0, 0
		for _, f := range reachedBy(files["l23_probe.go"], name) {
			s, c, o := sharedWays(told, f)
			started, counted, once = started+s, counted+c, once+o
		}
		if once == 0 || runs && (started == 0 || counted == 0) {
			t.Errorf("%s: %d are started, %d are counted, %d are made once", name, started, counted, once)
		}
	}
}

// keptNames are the variables of the package that have no value where they are declared, and the functions that are done once.
func keptNames(file *ast.File) (kept map[string]bool, makers map[string]bool) {
	kept, makers = map[string]bool{}, map[string]bool{}
	for _, d := range file.Decls {
		if group, ok := d.(*ast.GenDecl); ok && group.Tok == token.VAR {
			for _, s := range group.Specs {
				if spec := s.(*ast.ValueSpec); len(spec.Values) == 0 {
					kept[spec.Names[0].Name] = true
				}
			}
		}
	}
	ast.Inspect(file, func(n ast.Node) bool {
		if call, ok := n.(*ast.CallExpr); ok && calledName(call) == "Do" {
			if maker, ok := call.Args[0].(*ast.Ident); ok {
				makers[maker.Name] = true
			}
		}
		return true
	})
	return kept, makers
}

// What is kept from call to call is written by what is done once alone, and that is called by nothing else.
func TestTableOfFaultsIsMadeOnce(t *testing.T) {
	_, files := typesOf(t)
	file := files["l23_probe.go"]
	kept, makers := keptNames(file)
	written := 0
	for _, d := range file.Decls {
		f, ok := d.(*ast.FuncDecl)
		if !ok {
			continue
		}
		ast.Inspect(f, func(n ast.Node) bool {
			switch kind := n.(type) {
			case *ast.AssignStmt:
				for _, left := range kind.Lhs {
					if name, ok := left.(*ast.Ident); ok && kept[name.Name] {
						written++
						if !makers[f.Name.Name] {
							t.Errorf("%s writes %s", f.Name.Name, name.Name)
						}
					}
				}
			case *ast.CallExpr:
				if makers[calledName(kind)] {
					t.Errorf("%s calls %s", f.Name.Name, calledName(kind))
				}
			}
			return true
		})
	}
	if written == 0 {
		t.Error("nothing that is kept is written")
	}
}

// readsOfKept has the names of the variables that a function reads, each beside how: all of its uses, but what is written.
func readsOfKept(f *ast.FuncDecl, kept map[string]bool) map[string][]string {
	reads := map[string][]string{}
	var above []ast.Node
	ast.Inspect(f, func(n ast.Node) bool {
		if n == nil {
			above = above[:len(above)-1]
			return true
		}
		if name, ok := n.(*ast.Ident); ok && kept[name.Name] {
			if how := useOf(name, above[len(above)-1]); how != "written" {
				reads[name.Name] = append(reads[name.Name], how)
			}
		}
		above = append(above, n)
		return true
	})
	return reads
}

// useOf tells how a name is used by what stands right above it.
func useOf(name *ast.Ident, above ast.Node) string {
	switch kind := above.(type) {
	case *ast.AssignStmt:
		for _, left := range kind.Lhs {
			if left == name {
				return "written"
			}
		}
	case *ast.CallExpr:
		if called, ok := kind.Fun.(*ast.Ident); ok && called.Name == "len" {
			return "len"
		}
	case *ast.SelectorExpr:
		return kind.Sel.Name
	}
	return "other"
}

// What is answered is worked out by functions that read nothing that is kept: exported functions alone ask for it, that it be made, and how long it is.
func TestAnswersAreWorkedOutWithoutTheTableOfFaults(t *testing.T) {
	_, files := typesOf(t)
	file := files["l23_probe.go"]
	kept, _ := keptNames(file)
	readers := map[string]int{}
	for _, d := range file.Decls {
		f, ok := d.(*ast.FuncDecl)
		if !ok {
			continue
		}
		for name, ways := range readsOfKept(f, kept) {
			readers[name]++
			for _, how := range ways {
				if !f.Name.IsExported() || how != "len" && how != "Do" {
					t.Errorf("%s reads %s (%s)", f.Name.Name, name, how)
				}
			}
		}
	}
	for name := range kept {
		if readers[name] == 0 {
			t.Errorf("no exported function reads %s", name)
		}
	}
}
