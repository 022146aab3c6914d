package exact

import (
	"go/ast"
	"go/importer"
	"go/parser"
	"go/token"
	"go/types"
	"path/filepath"
	"strings"
	"testing"
)

// ways are the features of the language that the document asks for, by packages.
func ways() map[string]string {
	return map[string]string{
		"path":    "range-function closure struct-compared",
		"earth":   "array generic-function closure label iota",
		"fluid":   "struct-compared closure generic-function range-function",
		"pipe":    "range-function function-field embedding promoted label",
		"casing":  "closure variadic range-function",
		"kick":    "range-map method-value array label",
		"kill":    "interface interface-call type-switch range-function label",
		"rig":     "array range-function closure label copy",
		"barrier": "map range-integer closure generic-function",
		"house":   "method-expression label generic-function struct-compared",
	}
}

// source loads packages of the project from their files, and others from the library.
type source struct {
	set     *token.FileSet
	info    *types.Info
	files   map[string][]*ast.File
	types   map[string]*types.Package
	library types.Importer
}

func (s *source) Import(name string) (*types.Package, error) {
	own, ok := strings.CutPrefix(name, "moonpool/")
	if !ok {
		return s.library.Import(name)
	}
	if s.types[own] != nil {
		return s.types[own], nil
	}
	names, err := filepath.Glob("../" + own + "/*.go")
	if err != nil {
		return nil, err
	}
	for _, n := range names {
		if strings.HasSuffix(n, "_test.go") {
			continue
		}
		f, err := parser.ParseFile(s.set, n, nil, 0)
		if err != nil {
			return nil, err
		}
		s.files[own] = append(s.files[own], f)
	}
	p, err := (&types.Config{Importer: s}).Check(name, s.set, s.files[own], s.info)
	s.types[own] = p
	return p, err
}

func TestWaysAreUsed(t *testing.T) {
	set := token.NewFileSet()
	s := &source{set, &types.Info{Types: map[ast.Expr]types.TypeAndValue{}, Selections: map[*ast.SelectorExpr]*types.Selection{}}, map[string][]*ast.File{}, map[string]*types.Package{}, importer.ForCompiler(set, "source", nil)}
	for name, wanted := range ways() {
		if _, err := s.Import("moonpool/" + name); err != nil {
			t.Fatal(err)
		}
		found := map[string]bool{}
		for _, f := range s.files[name] {
			called := map[ast.Expr]bool{}
			ast.Inspect(f, func(n ast.Node) bool {
				if c, ok := n.(*ast.CallExpr); ok {
					called[c.Fun] = true
				}
				note(s.info, n, called, found)
				return true
			})
		}
		for _, way := range strings.Fields(wanted) {
			if !found[way] {
				t.Error(name, "does not use", way)
			}
		}
	}
}

// note notes the features that a node of a program uses.
func note(info *types.Info, n ast.Node, called map[ast.Expr]bool, found map[string]bool) {
	under := func(e ast.Expr) types.Type {
		if t := info.Types[e].Type; t != nil {
			return t.Underlying()
		}
		return nil
	}
	switch x := n.(type) {
	case *ast.FuncLit:
		found["closure"] = true
	case *ast.LabeledStmt:
		found["label"] = true
	case *ast.TypeSwitchStmt:
		found["type-switch"] = true
	case *ast.MapType:
		found["map"] = true
	case *ast.InterfaceType:
		found["interface"] = found["interface"] || len(x.Methods.List) > 0
	case *ast.FuncDecl:
		found["generic-function"] = found["generic-function"] || x.Type.TypeParams != nil
	case *ast.Ellipsis:
		found["variadic"] = found["variadic"] || x.Elt != nil
	case *ast.ArrayType:
		found["array"] = found["array"] || x.Len != nil
	case *ast.Ident:
		found["iota"] = found["iota"] || x.Name == "iota"
		found["copy"] = found["copy"] || x.Name == "copy"
	case *ast.StructType:
		for _, f := range x.Fields.List {
			_, is := f.Type.(*ast.FuncType)
			found["function-field"] = found["function-field"] || is
			found["embedding"] = found["embedding"] || len(f.Names) == 0
		}
	case *ast.BinaryExpr:
		if _, is := under(x.X).(*types.Struct); is && (x.Op == token.EQL || x.Op == token.NEQ) {
			found["struct-compared"] = true
		}
	case *ast.RangeStmt:
		switch under(x.X).(type) {
		case *types.Signature:
			found["range-function"] = true
		case *types.Map:
			found["range-map"] = true
		case *types.Basic:
			found["range-integer"] = true
		}
	case *ast.SelectorExpr:
		s := info.Selections[x]
		if s == nil {
			return
		}
		found["promoted"] = found["promoted"] || len(s.Index()) > 1
		found["method-expression"] = found["method-expression"] || s.Kind() == types.MethodExpr
		found["method-value"] = found["method-value"] || s.Kind() == types.MethodVal && !called[x]
		found["interface-call"] = found["interface-call"] || s.Kind() == types.MethodVal && types.IsInterface(s.Recv())
	}
}
