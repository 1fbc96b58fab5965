package tests

import (
	"go/ast"
	"go/token"
	"slices"
	"testing"
)

// tablesOf are the variables of a file outside its functions whose value is a list of at least so many rows, by their names.
func tablesOf(file *ast.File, rows int) []string {
	var names []string
	for _, d := range file.Decls {
		group, ok := d.(*ast.GenDecl)
		if !ok || group.Tok != token.VAR {
			continue
		}
		for _, s := range group.Specs {
			variable := s.(*ast.ValueSpec)
			for i, e := range variable.Values {
				if list, ok := e.(*ast.CompositeLit); ok && len(list.Elts) >= rows {
					names = append(names, variable.Names[i].Name)
				}
			}
		}
	}
	return names
}

// isVariadic tells whether the last thing that a function takes is any number of things.
func isVariadic(f *ast.FuncDecl) bool {
	list := f.Type.Params.List
	if len(list) == 0 {
		return false
	}
	_, many := list[len(list)-1].Type.(*ast.Ellipsis)
	return many
}

// The chapter 'Ways' asks it of charts: rules take any number of borders, and run rules stand in a table of constants.
func TestRunRulesStandInATable(t *testing.T) {
	_, files := typesOf(t)
	file := files["l16_chart.go"]
	tables := tablesOf(file, 6)
	ranged, variadic := 0, 0
	for _, f := range reachedBy(file, "AlarmsOf") {
		variadic += int(bit(isVariadic(f)))
		ast.Inspect(f, func(n ast.Node) bool {
			if loop, ok := n.(*ast.RangeStmt); ok {
				name, ok := loop.X.(*ast.Ident)
				ranged += int(bit(ok && slices.Contains(tables, name.Name)))
			}
			return true
		})
	}
	if ranged == 0 || variadic == 0 {
		t.Errorf("of the tables %v %d are ranged over; %d rules take any number of borders", tables, ranged, variadic)
	}
}
