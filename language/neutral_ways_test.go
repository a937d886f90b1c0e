package language

import (
	"go/ast"
	"testing"
)

// Ways of layer 11: polynomials are a named slice type, one of whose methods is passed on as
// a method expression; a method that calls itself builds the chain, which a variadic function
// grows; a generic function counts the signs of a sequence over which it ranges; the search
// of the library gets a closure.
func TestNeutralWays(t *testing.T) {
	files := filesOf(t, "neutral")
	slices, methods, grows := map[string]bool{}, map[string]string{}, map[string]bool{}
	got := map[string]bool{}
	each(files, func(n ast.Node) {
		switch x := n.(type) {
		case *ast.TypeSpec:
			a, ok := x.Type.(*ast.ArrayType)
			slices[x.Name.Name] = ok && a.Len == nil
		case *ast.FuncDecl:
			if x.Recv != nil {
				methods[x.Name.Name] = base(x.Recv.List[0].Type)
			}
			grows[x.Name.Name] = x.Recv == nil && takesAny(x, "polynomial")
		}
	})
	if !slices["polynomial"] {
		t.Error("polynomials are no named slice type")
	}
	each(files, func(n ast.Node) {
		switch x := n.(type) {
		case *ast.FuncDecl:
			if methods[x.Name.Name] == "polynomial" && callsOne(x, map[string]bool{x.Name.Name: true}) {
				got["variadic"] = got["variadic"] || callsOne(x, grows)
			}
			if x.Type.TypeParams != nil && rangesOverSequence(x) {
				got["generic-function"], got["range-function"] = true, true
			}
		case *ast.CallExpr:
			got["method-expression"] = got["method-expression"] || passes(x, func(s *ast.SelectorExpr) bool {
				return base(s.X) == "polynomial" && methods[s.Sel.Name] == "polynomial"
			})
			got["closure"] = got["closure"] || searches(x)
		}
	})
	for _, way := range []string{"method-expression", "variadic", "generic-function", "range-function", "closure"} {
		if !got[way] {
			t.Errorf("no %s where the chapter asks for it", way)
		}
	}
}

// rangesOverSequence reports whether a function ranges over its argument, a sequence.
func rangesOverSequence(f *ast.FuncDecl) bool {
	sequences := map[string]bool{}
	for _, p := range f.Type.Params.List {
		for _, name := range p.Names {
			sequences[name.Name] = base(p.Type) == "Seq"
		}
	}
	ranges := false
	ast.Inspect(f.Body, func(n ast.Node) bool {
		r, ok := n.(*ast.RangeStmt)
		ranges = ranges || ok && sequences[base(r.X)]
		return true
	})
	return ranges
}

// searches reports whether a call hands a closure to the library's search.
func searches(c *ast.CallExpr) bool {
	s, ok := c.Fun.(*ast.SelectorExpr)
	if !ok || base(s.X) != "sort" || s.Sel.Name != "Search" {
		return false
	}
	_, closure := c.Args[len(c.Args)-1].(*ast.FuncLit)
	return closure
}
