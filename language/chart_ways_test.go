package language

import (
	"go/ast"
	"go/token"
	"testing"
)

// Ways of layer 7: points are a struct, and one of its methods is passed on as a method
// value; triples of stations are yielded by a method, a range over a function with a
// triangle and its corners; triangles are arrays, looked up in a list that is sorted by a
// method of theirs; the walk along the rim is left by a label, out of the loop in it; the
// first element that fits is found by a generic function with a closure.
func TestChartWays(t *testing.T) {
	files := filesOf(t, "chart")
	structs, arrays, methods := map[string]bool{}, map[string]bool{}, map[string]string{}
	yields, lookups := map[string]bool{}, map[string]bool{}
	got := map[string]bool{}
	each(files, func(n ast.Node) {
		switch x := n.(type) {
		case *ast.TypeSpec:
			_, structs[x.Name.Name] = x.Type.(*ast.StructType)
			a, ok := x.Type.(*ast.ArrayType)
			arrays[x.Name.Name] = ok && a.Len != nil
		case *ast.FuncDecl:
			if x.Recv != nil {
				methods[x.Name.Name] = base(x.Recv.List[0].Type)
				yields[x.Name.Name] = yieldsTwo(x)
			}
			lookups[x.Name.Name] = x.Type.TypeParams != nil && fits(x)
		}
	})
	got["array"] = arrays["Triangle"]
	sorts, contains := false, false
	each(files, func(n ast.Node) {
		switch x := n.(type) {
		case *ast.RangeStmt:
			s, ok := x.X.(*ast.SelectorExpr)
			got["range-function"] = got["range-function"] || ok && x.Value != nil && yields[s.Sel.Name]
		case *ast.CallExpr:
			sorts = sorts || base(x.Fun) == "SortFunc" && passes(x, func(s *ast.SelectorExpr) bool { return arrays[base(s.X)] && methods[s.Sel.Name] == base(s.X) })
			contains = contains || base(x.Fun) == "Contains" && calledFor(x, "triangles")
			got["method-value"] = got["method-value"] || structs["point"] && passes(x, func(s *ast.SelectorExpr) bool { return methods[s.Sel.Name] == "point" })
			if lookups[base(x.Fun)] {
				got["generic-function"] = true
				_, closure := x.Args[len(x.Args)-1].(*ast.FuncLit)
				got["closure"] = got["closure"] || closure
			}
		case *ast.FuncDecl:
			got["label"] = got["label"] || x.Name.Name == "rim" && leavesOuterLoop(x)
		}
	})
	got["array-compared"] = sorts && contains
	for _, way := range []string{"method-value", "range-function", "array", "array-compared", "label", "generic-function", "closure"} {
		if !got[way] {
			t.Errorf("no %s where the chapter asks for it", way)
		}
	}
}

// fits reports whether the last argument of a function is one that yields a bool.
func fits(f *ast.FuncDecl) bool {
	list := f.Type.Params.List
	last, ok := list[len(list)-1].Type.(*ast.FuncType)
	return ok && last.Results != nil && base(last.Results.List[0].Type) == "bool"
}

// passes reports whether an argument of a call is a selector of some kind.
func passes(c *ast.CallExpr, of func(*ast.SelectorExpr) bool) bool {
	for _, a := range c.Args {
		if s, ok := a.(*ast.SelectorExpr); ok && of(s) {
			return true
		}
	}
	return false
}

// calledFor reports whether the first argument of a call is what a function returns.
func calledFor(c *ast.CallExpr, function string) bool {
	if len(c.Args) == 0 {
		return false
	}
	maker, ok := c.Args[0].(*ast.CallExpr)
	return ok && base(maker.Fun) == function
}

// leavesOuterLoop reports whether a loop with a label is left by it from within a loop inside.
func leavesOuterLoop(f *ast.FuncDecl) bool {
	leaves := false
	ast.Inspect(f, func(n ast.Node) bool {
		loop, ok := n.(*ast.RangeStmt)
		if !ok {
			return true
		}
		ast.Inspect(loop, func(n ast.Node) bool {
			b, ok := n.(*ast.BranchStmt)
			leaves = leaves || ok && b.Tok == token.BREAK && b.Label != nil
			return true
		})
		return true
	})
	return leaves
}
