package language

import (
	"go/ast"
	"testing"
)

// Ways of layer 12: a generic type keeps what was counted, in a field of the counter; a
// closure that calls itself continues an order by a slice with three indices; loops over
// days run over an integer; the days that are quieter are found with a method value.
func TestRankWays(t *testing.T) {
	files := filesOf(t, "rank")
	generics, methods, functions := map[string]bool{}, map[string]bool{}, map[string]bool{}
	got := map[string]bool{}
	each(files, func(n ast.Node) {
		switch x := n.(type) {
		case *ast.TypeSpec:
			generics[x.Name.Name] = x.TypeParams != nil
		case *ast.FuncDecl:
			methods[x.Name.Name] = x.Recv != nil
			functions[x.Name.Name] = takesFunction(x)
		}
	})
	each(files, func(n ast.Node) {
		switch x := n.(type) {
		case *ast.Field:
			_, instance := x.Type.(*ast.IndexListExpr)
			got["generic-type"] = got["generic-type"] || instance && generics[baseOfList(x.Type)]
		case *ast.AssignStmt:
			name, ok := x.Lhs[0].(*ast.Ident)
			closure, is := x.Rhs[0].(*ast.FuncLit)
			if ok && is && continues(closure, name.Name) {
				got["closure"], got["three-index"] = true, true
			}
		case *ast.RangeStmt:
			got["range-integer"] = got["range-integer"] || base(callee(x.X)) == "len"
		case *ast.CallExpr:
			got["method-value"] = got["method-value"] || functions[base(x.Fun)] && passes(x, func(s *ast.SelectorExpr) bool {
				return s.Sel.Name == "quieter" && methods["quieter"]
			})
		}
	})
	for _, way := range []string{"generic-type", "three-index", "closure", "range-integer", "method-value"} {
		if !got[way] {
			t.Errorf("no %s where the chapter asks for it", way)
		}
	}
}

// baseOfList returns the name of a generic type with several arguments.
func baseOfList(e ast.Expr) string {
	if l, ok := e.(*ast.IndexListExpr); ok {
		return base(l.X)
	}
	return ""
}

// callee returns the function of a call, or what is no call.
func callee(e ast.Expr) ast.Expr {
	if c, ok := e.(*ast.CallExpr); ok {
		return c.Fun
	}
	return e
}

// takesFunction reports whether an argument of a function is a function.
func takesFunction(f *ast.FuncDecl) bool {
	takes := false
	for _, p := range f.Type.Params.List {
		_, is := p.Type.(*ast.FuncType)
		takes = takes || is
	}
	return takes
}

// continues reports whether a closure calls itself by its name with what it appended to a
// slice with three indices.
func continues(closure *ast.FuncLit, name string) bool {
	calls := false
	ast.Inspect(closure.Body, func(n ast.Node) bool {
		c, ok := n.(*ast.CallExpr)
		calls = calls || ok && base(c.Fun) == name && appendsToThree(c.Args[0])
		return true
	})
	return calls
}

func appendsToThree(e ast.Expr) bool {
	c, ok := e.(*ast.CallExpr)
	if !ok || base(c.Fun) != "append" {
		return false
	}
	s, ok := c.Args[0].(*ast.SliceExpr)
	return ok && s.Slice3
}
