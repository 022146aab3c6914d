package exact

import (
	"go/ast"
	"go/parser"
	"go/token"
	"path/filepath"
	"strconv"
	"strings"
	"testing"
)

// allowed are the packages of the library that the program may use.
const allowed = " bytes cmp container/heap errors iter maps math math/bits slices sort strconv strings sync sync/atomic unicode unicode/utf8 "

// packages are the packages of the program.
const packages = "api exact path earth fluid pipe casing kick kill rig barrier house"

func TestR6TheProgramKeepsToItsLanguage(t *testing.T) {
	for _, p := range strings.Fields(packages) {
		files, err := filepath.Glob("../" + p + "/*.go")
		if err != nil || len(files) == 0 {
			t.Error(p, err)
		}
		for _, name := range files {
			if !strings.HasSuffix(name, "_test.go") {
				look(t, name)
			}
		}
	}
}

func look(t *testing.T, name string) {
	set := token.NewFileSet()
	file, err := parser.ParseFile(set, name, nil, parser.ParseComments)
	if err != nil {
		t.Fatal(err)
	}
	for _, i := range file.Imports {
		p, _ := strconv.Unquote(i.Path.Value)
		if !strings.HasPrefix(p, "moonpool/") && !strings.Contains(allowed, " "+p+" ") {
			t.Error(name, "imports", p)
		}
	}
	for _, d := range file.Decls {
		if g, ok := d.(*ast.GenDecl); ok && g.Tok == token.VAR {
			t.Error(name, "has a package variable", set.Position(g.Pos()))
		}
		if f, ok := d.(*ast.FuncDecl); ok && set.Position(f.End()).Line-set.Position(f.Pos()).Line > 60 {
			t.Error(name, "has the long function", f.Name.Name)
		}
	}
	ast.Inspect(file, func(n ast.Node) bool {
		switch x := n.(type) {
		case *ast.BasicLit:
			if x.Kind == token.FLOAT || x.Kind == token.IMAG {
				t.Error(name, "has the number", x.Value)
			}
		case *ast.Ident:
			if strings.Contains(" float32 float64 complex64 complex128 panic print println ", " "+x.Name+" ") {
				t.Error(name, "has", x.Name)
			}
		case *ast.GoStmt:
			t.Error(name, "has a goroutine")
		}
		return true
	})
	for _, c := range file.Comments {
		if strings.HasPrefix(c.List[0].Text, "//go:") {
			t.Error(name, "has a directive")
		}
	}
}
