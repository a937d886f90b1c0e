package language

import (
	"go/ast"
	"testing"
)

// Ways of layer 8: fractions are a type of their own, and the method that compares them
// is passed on as a method value; places are yielded by a range over a function that calls
// itself, and copied by copy when they become counts; pairs are arrays, looked up in a
// list; the extreme of several things is found by a generic function with a closure.
func TestPeriodWays(t *testing.T) {
	files := filesOf(t, "period")
	arrays, compares, generics := map[string]bool{}, map[string]bool{}, map[string]bool{}
	got := map[string]bool{}
	each(files, func(n ast.Node) {
		switch x := n.(type) {
		case *ast.TypeSpec:
			a, ok := x.Type.(*ast.ArrayType)
			arrays[x.Name.Name] = ok && a.Len != nil
		case *ast.FuncDecl:
			if x.Recv != nil {
				compares[x.Name.Name] = base(x.Recv.List[0].Type) == "fraction" && takesOne(x, "fraction")
			}
			generics[x.Name.Name] = x.Type.TypeParams != nil
		}
	})
	each(files, func(n ast.Node) {
		switch x := n.(type) {
		case *ast.FuncDecl:
			got["range-function"] = got["range-function"] || yieldsItself(x)
			got["array-compared"] = got["array-compared"] || arrays["pair"] && takesOne(x, "pair") && callsOne(x, map[string]bool{"Contains": true})
		case *ast.CallExpr:
			got["copy"] = got["copy"] || base(x.Fun) == "copy"
			got["method-value"] = got["method-value"] || passes(x, func(s *ast.SelectorExpr) bool { return compares[s.Sel.Name] })
			if generics[base(x.Fun)] {
				got["generic-function"] = true
				_, closure := x.Args[len(x.Args)-1].(*ast.FuncLit)
				got["closure"] = got["closure"] || closure
			}
		}
	})
	for _, way := range []string{"method-value", "range-function", "copy", "array-compared", "generic-function", "closure"} {
		if !got[way] {
			t.Errorf("no %s where the chapter asks for it", way)
		}
	}
}

// takesOne reports whether a function has one argument, of a type.
func takesOne(f *ast.FuncDecl, name string) bool {
	list := f.Type.Params.List
	return len(list) == 1 && len(list[0].Names) == 1 && base(list[0].Type) == name
}

// yieldsItself reports whether a function returns a sequence, and ranges over what it
// returns to itself.
func yieldsItself(f *ast.FuncDecl) bool {
	if f.Type.Results == nil || base(f.Type.Results.List[0].Type) != "Seq" {
		return false
	}
	ranges := false
	ast.Inspect(f.Body, func(n ast.Node) bool {
		r, ok := n.(*ast.RangeStmt)
		if !ok {
			return true
		}
		c, ok := r.X.(*ast.CallExpr)
		ranges = ranges || ok && base(c.Fun) == f.Name.Name
		return true
	})
	return ranges
}
