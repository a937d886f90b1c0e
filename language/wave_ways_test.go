package language

import (
	"go/ast"
	"go/token"
	"testing"
)

// Ways of layer 4: kinds of phases are constants made by iota; nodes are structs with a
// kind, which are compared, and keys of maps; those that were seen are deleted from such
// a map, by the closure that searches and calls itself; hours are yielded by a range
// over a function.
func TestWaveWays(t *testing.T) {
	files := filesOf(t, "wave")
	kinds, nodes, makers, sequences := map[string]bool{}, map[string]bool{}, map[string]bool{}, map[string]bool{}
	got := map[string]bool{}
	each(files, func(n ast.Node) {
		if g, ok := n.(*ast.GenDecl); ok && g.Tok == token.CONST {
			first := g.Specs[0].(*ast.ValueSpec)
			if len(first.Values) == 1 && base(first.Values[0]) == "iota" {
				got["iota"] = true
				kinds[base(first.Type)] = true
			}
		}
	})
	each(files, func(n ast.Node) {
		x, ok := n.(*ast.TypeSpec)
		if !ok {
			return
		}
		if s, ok := x.Type.(*ast.StructType); ok {
			for _, f := range s.Fields.List {
				nodes[x.Name.Name] = nodes[x.Name.Name] || kinds[base(f.Type)]
			}
		}
	})
	each(files, func(n ast.Node) {
		switch x := n.(type) {
		case *ast.FuncDecl:
			if x.Type.Results != nil {
				first := base(x.Type.Results.List[0].Type)
				makers[x.Name.Name] = nodes[first]
				sequences[x.Name.Name] = first == "Seq"
			}
		case *ast.MapType:
			got["map"] = got["map"] || nodes[base(x.Key)]
		case *ast.AssignStmt:
			if callsItself(x) {
				got["closure"] = true
				got["delete"] = got["delete"] || deletes(x)
			}
		}
	})
	each(files, func(n ast.Node) {
		switch x := n.(type) {
		case *ast.BinaryExpr:
			c, ok := x.X.(*ast.CallExpr)
			equals := x.Op == token.EQL || x.Op == token.NEQ
			got["struct-compared"] = got["struct-compared"] || ok && equals && makers[base(c.Fun)]
		case *ast.RangeStmt:
			c, ok := x.X.(*ast.CallExpr)
			got["range-function"] = got["range-function"] || ok && sequences[base(c.Fun)]
		}
	})
	for _, way := range []string{"iota", "struct-compared", "map", "delete", "closure", "range-function"} {
		if !got[way] {
			t.Errorf("no %s where the chapter asks for it", way)
		}
	}
}

func deletes(a *ast.AssignStmt) bool {
	found := false
	ast.Inspect(a, func(n ast.Node) bool {
		c, ok := n.(*ast.CallExpr)
		found = found || ok && base(c.Fun) == "delete"
		return true
	})
	return found
}
