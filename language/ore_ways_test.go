package language

import (
	"go/ast"
	"testing"
)

// Ways of layer 9: a method of a block yields its border, and loops range over it; costs
// are in an array of arrays, which a closure that calls itself fills; a cut is an
// interface with two kinds, which a type switch in Best tells apart; the walk of Find
// goes on by goto.
func TestOreWays(t *testing.T) {
	files := filesOf(t, "ore")
	yields, grids, cuts, kinds := map[string]bool{}, map[string]bool{}, map[string]bool{}, map[string]int{}
	got := map[string]bool{}
	each(files, func(n ast.Node) {
		switch x := n.(type) {
		case *ast.TypeSpec:
			grids[x.Name.Name] = isGrid(x.Type)
			if i, ok := x.Type.(*ast.InterfaceType); ok && x.Name.Name == "cut" {
				for _, m := range i.Methods.List {
					cuts[m.Names[0].Name] = true
				}
			}
		case *ast.FuncDecl:
			yields[x.Name.Name] = yields[x.Name.Name] || isSeqOfBlock(x)
		}
	})
	each(files, func(n ast.Node) {
		switch x := n.(type) {
		case *ast.RangeStmt:
			c, ok := x.X.(*ast.CallExpr)
			got["range-function"] = got["range-function"] || ok && base(c.Fun) == "border" && yields["border"]
		case *ast.ValueSpec:
			got["array"] = got["array"] || grids[base(x.Type)]
		case *ast.AssignStmt:
			got["closure"] = got["closure"] || callsItself(x) && fillsGrid(x)
		case *ast.FuncDecl:
			if x.Recv != nil && cuts[x.Name.Name] {
				kinds[base(x.Recv.List[0].Type)]++
			}
			got["type-switch"] = got["type-switch"] || x.Name.Name == "Best" && switchesTypes(x)
			got["goto"] = got["goto"] || x.Name.Name == "walk" && leavesByGoto(x)
		}
	})
	got["interface"] = len(cuts) > 0 && len(kinds) == 2
	for _, methods := range kinds {
		got["interface"] = got["interface"] && methods == len(cuts)
	}
	for _, way := range []string{"range-function", "array", "closure", "interface", "type-switch", "goto"} {
		if !got[way] {
			t.Errorf("no %s where the chapter asks for it", way)
		}
	}
}

// isSeqOfBlock reports whether a function is a method of Block that returns a sequence of two values.
func isSeqOfBlock(f *ast.FuncDecl) bool {
	if f.Recv == nil || base(f.Recv.List[0].Type) != "Block" || f.Type.Results == nil {
		return false
	}
	two, ok := f.Type.Results.List[0].Type.(*ast.IndexListExpr)
	return ok && base(two.X) == "Seq2"
}

// fillsGrid reports whether a closure assigns to an element of an element.
func fillsGrid(a *ast.AssignStmt) bool {
	fills := false
	ast.Inspect(a.Rhs[0], func(n ast.Node) bool {
		if x, ok := n.(*ast.AssignStmt); ok {
			outer, ok := x.Lhs[0].(*ast.IndexExpr)
			if ok {
				_, ok = outer.X.(*ast.IndexExpr)
			}
			fills = fills || ok
		}
		return true
	})
	return fills
}

func switchesTypes(f *ast.FuncDecl) bool {
	switches := false
	ast.Inspect(f, func(n ast.Node) bool {
		_, ok := n.(*ast.TypeSwitchStmt)
		switches = switches || ok
		return true
	})
	return switches
}
