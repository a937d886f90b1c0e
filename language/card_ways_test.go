package language

import (
	"go/ast"
	"go/token"
	"testing"
)

// Ways of layer 5: segments are yielded by a method of the card, a range over a function
// with two values, and this method value is passed on; headings are brought back by a
// switch with cases that fall through; a method adds a variadic list of fractions; the
// allowances at both ends come from one generic function.
func TestCardWays(t *testing.T) {
	files := filesOf(t, "card")
	yields, variadic, generics := map[string]bool{}, map[string]bool{}, map[string]bool{}
	got := map[string]bool{}
	each(files, func(n ast.Node) {
		x, ok := n.(*ast.FuncDecl)
		if !ok {
			return
		}
		generics[x.Name.Name] = x.Type.TypeParams != nil
		if x.Recv == nil {
			return
		}
		yields[x.Name.Name] = yields[x.Name.Name] || base(x.Recv.List[0].Type) == "Card" && yieldsTwo(x)
		if list := x.Type.Params.List; len(list) == 1 {
			_, ellipsis := list[0].Type.(*ast.Ellipsis)
			variadic[x.Name.Name] = ellipsis && base(x.Recv.List[0].Type) == "fraction"
		}
	})
	each(files, func(n ast.Node) {
		switch x := n.(type) {
		case *ast.RangeStmt:
			s, ok := x.X.(*ast.SelectorExpr)
			got["range-function"] = got["range-function"] || ok && x.Value != nil && yields[s.Sel.Name]
		case *ast.SwitchStmt:
			got["fallthrough"] = got["fallthrough"] || fallsThrough(x)
		case *ast.CallExpr:
			got["variadic"] = got["variadic"] || variadic[base(x.Fun)] && x.Ellipsis.IsValid()
			for _, a := range x.Args {
				s, ok := a.(*ast.SelectorExpr)
				got["method-value"] = got["method-value"] || ok && yields[s.Sel.Name]
			}
		case *ast.FuncDecl:
			if x.Name.Name == "Within" {
				got["generic-function"] = callsOne(x, generics)
			}
		}
	})
	for _, way := range []string{"range-function", "fallthrough", "variadic", "method-value", "generic-function"} {
		if !got[way] {
			t.Errorf("no %s where the chapter asks for it", way)
		}
	}
}

// yieldsTwo reports whether a function gets a function of two values as its only argument.
func yieldsTwo(f *ast.FuncDecl) bool {
	list := f.Type.Params.List
	if len(list) != 1 {
		return false
	}
	yield, ok := list[0].Type.(*ast.FuncType)
	return ok && len(yield.Params.List) == 2
}

func fallsThrough(s *ast.SwitchStmt) bool {
	falls := false
	ast.Inspect(s, func(n ast.Node) bool {
		b, ok := n.(*ast.BranchStmt)
		falls = falls || ok && b.Tok == token.FALLTHROUGH
		return true
	})
	return falls
}

// callsOne reports whether a function calls one of some functions.
func callsOne(f *ast.FuncDecl, functions map[string]bool) bool {
	calls := false
	ast.Inspect(f, func(n ast.Node) bool {
		c, ok := n.(*ast.CallExpr)
		calls = calls || ok && functions[base(c.Fun)]
		return true
	})
	return calls
}
