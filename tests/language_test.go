package tests

import (
	"bytes"
	"go/ast"
	"go/format"
	"go/parser"
	"go/token"
	"os"
	"path/filepath"
	"slices"
	"strconv"
	"strings"
	"testing"
)

const mostLines = 60

var mayImport = []string{"bytes", "cmp", "container/heap", "errors", "iter", "maps", "math", "math/big", "math/bits", "slices",
	"sort", "strconv", "strings", "sync", "sync/atomic", "unicode", "unicode/utf8"}

// eachFile calls do with every file of the program, its name, its text and its tree; all are of one set.
func eachFile(t *testing.T, do func(name string, text []byte, set *token.FileSet, file *ast.File)) {
	t.Helper()
	names, err := filepath.Glob("../impl/*.go")
	if err != nil || len(names) == 0 {
		t.Fatal("no files of the program", err)
	}
	set := token.NewFileSet()
	for _, name := range names {
		text, err := os.ReadFile(name)
		if err != nil {
			t.Fatal(err)
		}
		file, err := parser.ParseFile(set, name, text, parser.ParseComments)
		if err != nil {
			t.Fatal(err)
		}
		do(name, text, set, file)
	}
}

func TestFilesAreGoAlone(t *testing.T) {
	list, err := os.ReadDir("../impl")
	if err != nil {
		t.Fatal(err)
	}
	for _, entry := range list {
		if entry.IsDir() || !strings.HasSuffix(entry.Name(), ".go") {
			t.Errorf("%s is no Go file", entry.Name())
		}
	}
}

func TestImportsAreAllowed(t *testing.T) {
	eachFile(t, func(name string, _ []byte, _ *token.FileSet, file *ast.File) {
		for _, i := range file.Imports {
			path, err := strconv.Unquote(i.Path.Value)
			if err != nil || !slices.Contains(mayImport, path) {
				t.Errorf("%s imports %s", name, i.Path.Value)
			}
		}
	})
}

func TestNoLineSteersTheCompiler(t *testing.T) {
	eachFile(t, func(name string, text []byte, _ *token.FileSet, _ *ast.File) {
		for _, line := range strings.Split(string(text), "\n") {
			line = strings.TrimSpace(line)
			if strings.HasPrefix(line, "//go:") || strings.HasPrefix(line, "// +build") {
				t.Errorf("%s has %s", name, line)
			}
		}
	})
}

func TestLayoutIsPlain(t *testing.T) {
	eachFile(t, func(name string, text []byte, _ *token.FileSet, _ *ast.File) {
		plain, err := format.Source(text)
		if err != nil || !bytes.Equal(plain, text) {
			t.Errorf("%s is not in gofmt's layout (%v)", name, err)
		}
	})
}

func TestFunctionsAreShort(t *testing.T) {
	eachFile(t, func(name string, _ []byte, set *token.FileSet, file *ast.File) {
		for _, d := range file.Decls {
			f, ok := d.(*ast.FuncDecl)
			if !ok {
				continue
			}
			if lines := set.Position(f.End()).Line - set.Position(f.Pos()).Line + 1; lines > mostLines {
				t.Errorf("%s: %s has %d lines", name, f.Name.Name, lines)
			}
		}
	})
}
