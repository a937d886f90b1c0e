package language

import (
	"go/ast"
	"testing"
)

// Ways of layer 6: methods of vectors are passed on as method expressions; a method
// returns the six vectors of the certificate as an array, and a loop over them is left
// by a label; a list of choices, which are structs, is asked whether one is in it;
// bundles embed their kit; a variadic method checks choices.
func TestMagnetWays(t *testing.T) {
	files := filesOf(t, "magnet")
	methods, six := map[string]bool{}, map[string]bool{}
	got := map[string]bool{}
	each(files, func(n ast.Node) {
		switch x := n.(type) {
		case *ast.FuncDecl:
			if x.Recv == nil {
				return
			}
			methods[x.Name.Name] = methods[x.Name.Name] || base(x.Recv.List[0].Type) == "Vector"
			if x.Type.Results != nil && isSix(x.Type.Results.List[0].Type) {
				six[x.Name.Name], got["array"] = true, true
			}
			last := x.Type.Params.List
			if len(last) > 0 {
				e, ok := last[len(last)-1].Type.(*ast.Ellipsis)
				got["variadic"] = got["variadic"] || ok && base(e.Elt) == "Choice"
			}
		case *ast.StructType:
			for _, f := range x.Fields.List {
				got["embedding"] = got["embedding"] || len(f.Names) == 0 && base(f.Type) == "Kit"
			}
		}
	})
	each(files, func(n ast.Node) {
		switch x := n.(type) {
		case *ast.CallExpr:
			for _, a := range x.Args {
				s, ok := a.(*ast.SelectorExpr)
				got["method-expression"] = got["method-expression"] || ok && base(s.X) == "Vector" && methods[s.Sel.Name]
			}
		case *ast.FuncDecl:
			got["label"] = got["label"] || leavesLoopOver(x, six)
			got["struct-compared"] = got["struct-compared"] || listsChoices(x) && callsOne(x, map[string]bool{"Contains": true})
		}
	})
	for _, way := range []string{"method-expression", "array", "label", "struct-compared", "embedding", "variadic"} {
		if !got[way] {
			t.Errorf("no %s where the chapter asks for it", way)
		}
	}
}

// isSix reports whether a type is an array of six vectors.
func isSix(e ast.Expr) bool {
	a, ok := e.(*ast.ArrayType)
	if !ok {
		return false
	}
	length, ok := a.Len.(*ast.BasicLit)
	return ok && length.Value == "6" && base(a.Elt) == "Vector"
}

// leavesLoopOver reports whether a function gets a list from one of some functions, and
// leaves a loop over this list by a label.
func leavesLoopOver(f *ast.FuncDecl, makers map[string]bool) bool {
	lists, leaves := map[string]bool{}, false
	ast.Inspect(f, func(n ast.Node) bool {
		switch x := n.(type) {
		case *ast.AssignStmt:
			c, ok := x.Rhs[0].(*ast.CallExpr)
			lists[base(x.Lhs[0])] = ok && makers[base(c.Fun)]
		case *ast.RangeStmt:
			leaves = leaves || lists[base(x.X)] && leavesByLabel(&ast.FuncDecl{Name: f.Name, Type: f.Type, Body: x.Body})
		}
		return true
	})
	return leaves
}

// listsChoices reports whether a function writes out a list of choices.
func listsChoices(f *ast.FuncDecl) bool {
	lists := false
	ast.Inspect(f, func(n ast.Node) bool {
		if c, ok := n.(*ast.CompositeLit); ok {
			l, ok := c.Type.(*ast.ArrayType)
			lists = lists || ok && base(l.Elt) == "Choice"
		}
		return true
	})
	return lists
}
