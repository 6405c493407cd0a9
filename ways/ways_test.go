// Package ways asks whether each layer leans on the ways of the language that its chapter names.
package ways

import (
	"go/ast"
	"go/importer"
	"go/parser"
	"go/token"
	"go/types"
	"path/filepath"
	"slices"
	"strings"
	"testing"
)

// loader reads the project's packages, with their types.
type loader struct {
	fset  *token.FileSet
	std   types.Importer
	info  *types.Info
	packs map[string]*types.Package
	files map[string][]*ast.File
}

func newLoader() *loader {
	fset := token.NewFileSet()
	return &loader{fset, importer.ForCompiler(fset, "source", nil), &types.Info{Types: map[ast.Expr]types.TypeAndValue{}, Selections: map[*ast.SelectorExpr]*types.Selection{}}, map[string]*types.Package{}, map[string][]*ast.File{}}
}

func (l *loader) Import(path string) (*types.Package, error) {
	name, own := strings.CutPrefix(path, "weft/")
	if !own {
		return l.std.Import(path)
	}
	if p := l.packs[name]; p != nil {
		return p, nil
	}
	all, _ := filepath.Glob(filepath.Join("..", name, "*.go"))
	for _, f := range all {
		if strings.HasSuffix(f, "_test.go") {
			continue
		}
		a, err := parser.ParseFile(l.fset, f, nil, 0)
		if err != nil {
			return nil, err
		}
		l.files[name] = append(l.files[name], a)
	}
	p, err := (&types.Config{Importer: l}).Check(path, l.fset, l.files[name], l.info)
	l.packs[name] = p
	return p, err
}

// under is what an expression's type comes to.
func (l *loader) under(e ast.Expr) types.Type {
	if t := l.info.Types[e].Type; t != nil {
		return t.Underlying()
	}
	return nil
}

// ways are the words of what a node of the syntax is.
func (l *loader) ways(n ast.Node) []string {
	switch x := n.(type) {
	case *ast.BranchStmt:
		return []string{x.Tok.String()}
	case *ast.LabeledStmt:
		return []string{"label"}
	case *ast.DeferStmt:
		return []string{"defer"}
	case *ast.FuncLit:
		return []string{"closure"}
	case *ast.TypeAssertExpr:
		return []string{"assertion"}
	case *ast.MapType:
		return []string{"map"}
	case *ast.ChanType:
		return []string{"channel"}
	case *ast.SendStmt:
		return []string{"send"}
	case *ast.SelectStmt:
		return []string{"select"}
	case *ast.Ellipsis:
		return []string{"variadic"}
	case *ast.Ident:
		return []string{x.Name} // panic, recover, iota
	case *ast.UnaryExpr:
		if x.Op == token.ARROW {
			return []string{"receive"}
		}
	case *ast.TypeSpec:
		if x.TypeParams != nil {
			return []string{"generic-type"}
		}
	case *ast.FuncDecl:
		if x.Type.TypeParams != nil {
			return []string{"generic-function"}
		}
	case *ast.StructType:
		if slices.ContainsFunc(x.Fields.List, func(f *ast.Field) bool { return len(f.Names) == 0 }) {
			return []string{"embedding"}
		}
	case *ast.SelectorExpr:
		if s := l.info.Selections[x]; s != nil && len(s.Index()) > 1 {
			return []string{"promoted"}
		}
	case *ast.RangeStmt:
		switch l.under(x.X).(type) {
		case *types.Signature:
			return []string{"range-function"}
		case *types.Map:
			return []string{"range-map"}
		}
	case *ast.BinaryExpr:
		if _, ok := l.under(x.X).(*types.Struct); ok && (x.Op == token.EQL || x.Op == token.NEQ) {
			return []string{"struct-compared"}
		}
	}
	return nil
}

func TestWays(t *testing.T) {
	l := newLoader()
	for name, words := range map[string]string{
		"digits": "fallthrough", "varint": "range-function", "bits": "range-function variadic", "intern": "generic-type generic-function range-function", "tarjan": "label", "agenda": "generic-type", "token": "fallthrough iota", "shape": "closure", "show": "panic recover defer", "parse": "panic recover defer assertion", "scope": "range-function closure iota",
		"names": "fallthrough struct-compared", "system": "generic-function", "lower": "closure embedding promoted", "least": "map range-map", "solve": "panic recover defer", "open": "closure", "resolve": "range-function", "fold": "range-function", "summary": "closure", "record": "generic-function embedding promoted", "clone": "closure", "cache": "embedding", "space": "generic-function", "machine": "panic recover defer", "bound": "struct-compared", "script": "channel send receive select",
	} {
		if _, err := l.Import("weft/" + name); err != nil {
			t.Fatal(err)
		}
		got := map[string]bool{}
		for _, f := range l.files[name] {
			ast.Inspect(f, func(n ast.Node) bool {
				for _, w := range l.ways(n) {
					got[w] = true
				}
				return true
			})
		}
		for _, w := range strings.Fields(words) {
			if !got[w] {
				t.Errorf("%s has no %s", name, w)
			}
		}
	}
}
