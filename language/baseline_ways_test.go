package language

import (
	"go/ast"
	"go/token"
	"testing"
)

// Ways of layer 2: absolutes are walked by an endless loop that is left by a goto;
// spans are cut by a method with a pointer, passed as a method value; a sheet is
// embedded in one with its parts, which a range over a function yields; indices are
// collected by a generic function.
func TestBaselineWays(t *testing.T) {
	files := filesOf(t, "baseline")
	pointers, sequences, collectors := map[string]bool{}, map[string]bool{}, map[string]bool{}
	walks, embeds, cuts, yields, collects := false, false, false, false, false
	each(files, func(n ast.Node) {
		switch x := n.(type) {
		case *ast.FuncDecl:
			if x.Recv != nil {
				_, pointer := x.Recv.List[0].Type.(*ast.StarExpr)
				pointers[x.Name.Name] = pointer
			}
			sequences[x.Name.Name] = x.Type.Results != nil && base(x.Type.Results.List[0].Type) == "Seq"
			collectors[x.Name.Name] = x.Type.TypeParams != nil
		case *ast.ForStmt:
			endless := x.Init == nil && x.Cond == nil && x.Post == nil
			walks = walks || endless && leavesByGoto(x)
		case *ast.StructType:
			for _, f := range x.Fields.List {
				embeds = embeds || len(f.Names) == 0 && base(f.Type) == "Sheet"
			}
		}
	})
	each(files, func(n ast.Node) {
		switch x := n.(type) {
		case *ast.RangeStmt:
			if c, ok := x.X.(*ast.CallExpr); ok {
				yields = yields || sequences[base(c.Fun)]
			}
		case *ast.CallExpr:
			collects = collects || collectors[base(x.Fun)]
			for _, a := range x.Args {
				s, ok := a.(*ast.SelectorExpr)
				cuts = cuts || ok && pointers[s.Sel.Name]
			}
		}
	})
	for way, there := range map[string]bool{"goto": walks, "embedding": embeds, "method-value": cuts, "range-function": yields, "generic-function": collects} {
		if !there {
			t.Errorf("no %s where the chapter asks for it", way)
		}
	}
}

func leavesByGoto(n ast.Node) bool {
	leaves := false
	ast.Inspect(n, func(n ast.Node) bool {
		b, ok := n.(*ast.BranchStmt)
		leaves = leaves || ok && b.Tok == token.GOTO
		return true
	})
	return leaves
}
