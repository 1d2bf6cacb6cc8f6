package tests

import (
	"bytes"
	"go/ast"
	"go/format"
	"go/parser"
	"go/token"
	"os"
	"path/filepath"
	"strings"
	"testing"
)

const program = "../impl"

// allowed are the imports that the language page names.
const allowed = ` "bytes" "cmp" "container/heap" "errors" "iter" "maps" "math" "math/bits" "slices" "sort" "strconv" "strings" "sync" "sync/atomic" "unicode" "unicode/utf8" `

const longestFunction = 60

func TestProgramKeepsToItsLanguage(t *testing.T) {
	files, err := os.ReadDir(program)
	if err != nil || len(files) == 0 {
		t.Fatal("no program", err)
	}
	for _, file := range files {
		if filepath.Ext(file.Name()) != ".go" {
			t.Error(file.Name(), "is no Go file")
			continue
		}
		source, err := os.ReadFile(filepath.Join(program, file.Name()))
		if err != nil {
			t.Fatal(err)
		}
		checkFile(t, file.Name(), source)
	}
}

func checkFile(t *testing.T, name string, source []byte) {
	laid, err := format.Source(source)
	if err != nil || !bytes.Equal(laid, source) {
		t.Error(name, "is not laid out as gofmt does", err)
	}
	if bytes.Contains(source, []byte("//go:")) {
		t.Error(name, "has a //go: line")
	}
	set := token.NewFileSet()
	tree, err := parser.ParseFile(set, name, source, 0)
	if err != nil {
		t.Fatal(err)
	}
	for _, i := range tree.Imports {
		if !strings.Contains(allowed, " "+i.Path.Value+" ") {
			t.Error(name, "imports", i.Path.Value)
		}
	}
	for _, d := range tree.Decls {
		f, ok := d.(*ast.FuncDecl)
		if ok && set.Position(f.End()).Line-set.Position(f.Pos()).Line >= longestFunction {
			t.Error(name, "has a long function:", f.Name.Name)
		}
	}
}
