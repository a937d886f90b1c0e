package language

import (
	"go/ast"
	"go/token"
	"path/filepath"
	"testing"
)

// found says which of the ways of layer 1 are where the chapter asks for them.
type found struct {
	yields, eliminates, chooses, compares, steps bool
}

// Ways of layer 1: chosen rows are yielded by a range over a function; a column is
// eliminated by a method on an array of arrays that is left through a label; a
// generic function gets a comparing closure; steps are numbered by iota.
func TestPillarWays(t *testing.T) {
	files := filesOf(t, "pillar")
	grids, generics := map[string]bool{}, map[string]bool{}
	each(files, func(n ast.Node) {
		switch x := n.(type) {
		case *ast.TypeSpec:
			grids[x.Name.Name] = isGrid(x.Type)
		case *ast.FuncDecl:
			generics[x.Name.Name] = x.Type.TypeParams != nil
		}
	})
	var got found
	each(files, func(n ast.Node) { got.look(n, grids, generics) })
	if want := (found{true, true, true, true, true}); got != want {
		t.Errorf("ways: %+v", got)
	}
}

// filesOf returns the files of a layer, without tests.
func filesOf(t *testing.T, layer string) []*ast.File {
	t.Helper()
	var files []*ast.File
	for _, s := range sources(t) {
		if filepath.Base(filepath.Dir(s.path)) == layer {
			files = append(files, s.file)
		}
	}
	return files
}

func each(files []*ast.File, see func(ast.Node)) {
	for _, f := range files {
		ast.Inspect(f, func(n ast.Node) bool {
			see(n)
			return true
		})
	}
}

func (f *found) look(n ast.Node, grids, generics map[string]bool) {
	switch x := n.(type) {
	case *ast.FuncDecl:
		if x.Recv != nil && grids[base(x.Recv.List[0].Type)] {
			f.eliminates = f.eliminates || leavesByLabel(x)
		}
	case *ast.FuncType:
		if x.Results != nil && len(x.Results.List) == 1 && base(x.Results.List[0].Type) == "Seq" {
			f.yields = true
		}
	case *ast.CallExpr:
		if name, ok := x.Fun.(*ast.Ident); ok && generics[name.Name] {
			f.chooses = true
			for _, a := range x.Args {
				_, closure := a.(*ast.FuncLit)
				f.compares = f.compares || closure
			}
		}
	case *ast.GenDecl:
		ast.Inspect(x, func(n ast.Node) bool {
			i, ok := n.(*ast.Ident)
			f.steps = f.steps || ok && x.Tok == token.CONST && i.Name == "iota"
			return true
		})
	}
}

// isGrid reports whether a type is an array of arrays.
func isGrid(e ast.Expr) bool {
	outer, ok := e.(*ast.ArrayType)
	if !ok || outer.Len == nil {
		return false
	}
	inner, ok := outer.Elt.(*ast.ArrayType)
	return ok && inner.Len != nil
}

// base returns the name of a type without its star, package and arguments.
func base(e ast.Expr) string {
	switch x := e.(type) {
	case *ast.Ident:
		return x.Name
	case *ast.StarExpr:
		return base(x.X)
	case *ast.IndexExpr:
		return base(x.X)
	case *ast.SelectorExpr:
		return x.Sel.Name
	}
	return ""
}

// leavesByLabel reports whether a function leaves a statement through its label.
func leavesByLabel(f *ast.FuncDecl) bool {
	leaves := false
	ast.Inspect(f, func(n ast.Node) bool {
		b, ok := n.(*ast.BranchStmt)
		leaves = leaves || ok && b.Label != nil
		return true
	})
	return leaves
}
