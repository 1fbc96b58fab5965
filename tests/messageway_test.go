package tests

import (
	"go/ast"
	"go/token"
	"testing"
)

// branchesOf counts the branches of each sort in what a function of a file reaches.
func branchesOf(file *ast.File, name string) map[token.Token]int {
	met := map[token.Token]int{}
	for _, f := range reachedBy(file, name) {
		ast.Inspect(f, func(n ast.Node) bool {
			if branch, ok := n.(*ast.BranchStmt); ok {
				met[branch.Tok]++
			}
			return true
		})
	}
	return met
}

// The chapter 'Ways' asks it of messages: an item's length and bytes are read by a machine with goto, and kinds fall through.
func TestItemsAreReadByAMachine(t *testing.T) {
	_, files := typesOf(t)
	file := files["l18_message.go"]
	if met := branchesOf(file, "DecodeItems"); met[token.GOTO] < 2 || met[token.FALLTHROUGH] == 0 {
		t.Errorf("DecodeItems goes by %v", met)
	}
	for _, name := range []string{"ItemsFault", "EncodeItems"} {
		if met := branchesOf(file, name); met[token.FALLTHROUGH] == 0 {
			t.Errorf("%s goes by %v", name, met)
		}
	}
}
