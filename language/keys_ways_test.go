package language

import (
	"go/ast"
	"go/token"
	"testing"
)

// Ways of layer 10: a search keeps what was reached in a map, which it clears before it
// begins; a list of questions is a table of structs with a function field, filled with
// method values; the loop over rules is continued by its label, out of the loop in it;
// given cases are passed on to a variadic method.
func TestKeysWays(t *testing.T) {
	files := filesOf(t, "keys")
	maps, asks, methods, variadic := map[string]bool{}, map[string]bool{}, map[string]bool{}, map[string]bool{}
	got := map[string]bool{}
	each(files, func(n ast.Node) {
		switch x := n.(type) {
		case *ast.Field:
			m, ok := x.Type.(*ast.MapType)
			for _, name := range x.Names {
				maps[name.Name] = maps[name.Name] || ok && base(m.Key) == "Case"
			}
		case *ast.TypeSpec:
			asks[x.Name.Name] = hasFunctionField(x.Type)
		case *ast.FuncDecl:
			methods[x.Name.Name] = x.Recv != nil
			variadic[x.Name.Name] = x.Recv != nil && takesAny(x, "Case")
		}
	})
	each(files, func(n ast.Node) {
		switch x := n.(type) {
		case *ast.FuncDecl:
			if clearsFirst(x, maps) {
				got["map"], got["clear"] = true, true
			}
		case *ast.CompositeLit:
			if l, ok := x.Type.(*ast.ArrayType); ok && asks[base(l.Elt)] {
				got["function-field"] = true
				got["method-value"] = len(x.Elts) > 0
				for _, row := range x.Elts {
					got["method-value"] = got["method-value"] && namesMethod(row, methods)
				}
			}
		case *ast.LabeledStmt:
			r, ok := x.Stmt.(*ast.RangeStmt)
			got["label"] = got["label"] || ok && base(r.X) == "Rules" && continuesFromWithin(r, x.Label.Name)
		case *ast.CallExpr:
			_, method := x.Fun.(*ast.SelectorExpr)
			got["variadic"] = got["variadic"] || method && x.Ellipsis.IsValid() && variadic[base(x.Fun)]
		}
	})
	for _, way := range []string{"map", "clear", "method-value", "function-field", "label", "variadic"} {
		if !got[way] {
			t.Errorf("no %s where the chapter asks for it", way)
		}
	}
}

func hasFunctionField(e ast.Expr) bool {
	s, ok := e.(*ast.StructType)
	if !ok {
		return false
	}
	has := false
	for _, f := range s.Fields.List {
		_, function := f.Type.(*ast.FuncType)
		has = has || function
	}
	return has
}

// takesAny reports whether the last argument of a function is any number of some type.
func takesAny(f *ast.FuncDecl, name string) bool {
	list := f.Type.Params.List
	if len(list) == 0 {
		return false
	}
	last, ok := list[len(list)-1].Type.(*ast.Ellipsis)
	return ok && base(last.Elt) == name
}

// clearsFirst reports whether a function begins with clearing one of some fields.
func clearsFirst(f *ast.FuncDecl, fields map[string]bool) bool {
	if len(f.Body.List) == 0 {
		return false
	}
	first, ok := f.Body.List[0].(*ast.ExprStmt)
	if !ok {
		return false
	}
	c, ok := first.X.(*ast.CallExpr)
	return ok && base(c.Fun) == "clear" && fields[base(c.Args[0])]
}

// namesMethod reports whether a row of a table has a method as a value.
func namesMethod(row ast.Expr, methods map[string]bool) bool {
	c, ok := row.(*ast.CompositeLit)
	if !ok {
		return false
	}
	names := false
	for _, e := range c.Elts {
		s, ok := e.(*ast.SelectorExpr)
		names = names || ok && methods[s.Sel.Name]
	}
	return names
}

// continuesFromWithin reports whether a loop within a loop continues the outer one by its label.
func continuesFromWithin(loop *ast.RangeStmt, label string) bool {
	continues := false
	ast.Inspect(loop.Body, func(n ast.Node) bool {
		inner, ok := n.(*ast.RangeStmt)
		if !ok {
			return true
		}
		ast.Inspect(inner.Body, func(n ast.Node) bool {
			b, ok := n.(*ast.BranchStmt)
			continues = continues || ok && b.Tok == token.CONTINUE && b.Label != nil && b.Label.Name == label
			return true
		})
		return true
	})
	return continues
}
