package language

import (
	"go/ast"
	"testing"
)

// Ways of layer 3: squares are a struct that embeds api.Span, and one of its methods is
// passed on as a method value; connected quantities are found by a closure that calls
// itself; groups are yielded by a range over a function; a map keeps what triangles
// belong to a quantity; spans are copied before they are narrowed.
func TestTotalWays(t *testing.T) {
	files := filesOf(t, "total")
	embedding, methods, sequences := map[string]bool{}, map[string]bool{}, map[string]bool{}
	got := map[string]bool{}
	each(files, func(n ast.Node) {
		x, ok := n.(*ast.TypeSpec)
		if !ok {
			return
		}
		if s, ok := x.Type.(*ast.StructType); ok {
			for _, f := range s.Fields.List {
				embedding[x.Name.Name] = embedding[x.Name.Name] || len(f.Names) == 0 && base(f.Type) == "Span"
			}
		}
	})
	each(files, func(n ast.Node) {
		x, ok := n.(*ast.FuncDecl)
		if !ok {
			return
		}
		if x.Recv != nil && embedding[base(x.Recv.List[0].Type)] {
			got["embedding"] = true
			got["promoted"] = got["promoted"] || readsEnds(x)
			methods[x.Name.Name] = true
		}
		if x.Type.Results != nil {
			sequences[x.Name.Name] = base(x.Type.Results.List[0].Type) == "Seq"
			_, keeps := x.Type.Results.List[0].Type.(*ast.MapType)
			got["map"] = got["map"] || keeps
		}
	})
	each(files, func(n ast.Node) {
		switch x := n.(type) {
		case *ast.RangeStmt:
			if c, ok := x.X.(*ast.CallExpr); ok && sequences[base(c.Fun)] {
				got["range-function"] = true
			}
		case *ast.AssignStmt:
			got["closure"] = got["closure"] || callsItself(x)
		case *ast.CallExpr:
			got["copy"] = got["copy"] || base(x.Fun) == "copy"
			for _, a := range x.Args {
				if s, ok := a.(*ast.SelectorExpr); ok && methods[s.Sel.Name] {
					got["method-value"] = true
				}
			}
		}
	})
	for _, way := range []string{"method-value", "closure", "range-function", "map", "copy", "embedding", "promoted"} {
		if !got[way] {
			t.Errorf("no %s where the chapter asks for it", way)
		}
	}
}

// readsEnds reports whether a method reads an end of its receiver, by its promoted name.
func readsEnds(f *ast.FuncDecl) bool {
	reads := false
	ast.Inspect(f.Body, func(n ast.Node) bool {
		if s, ok := n.(*ast.SelectorExpr); ok && s.Sel.Name == "Lo" {
			x, ok := s.X.(*ast.Ident)
			reads = reads || ok && x.Name == f.Recv.List[0].Names[0].Name
		}
		return true
	})
	return reads
}

// callsItself reports whether a closure is assigned to a variable through which it calls itself.
func callsItself(a *ast.AssignStmt) bool {
	name, ok := a.Lhs[0].(*ast.Ident)
	closure, is := a.Rhs[0].(*ast.FuncLit)
	if !ok || !is {
		return false
	}
	calls := false
	ast.Inspect(closure.Body, func(n ast.Node) bool {
		c, ok := n.(*ast.CallExpr)
		calls = calls || ok && base(c.Fun) == name.Name
		return true
	})
	return calls
}
