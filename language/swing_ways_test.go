package language

import (
	"go/ast"
	"testing"
)

// Ways of layer 13: marks are the runes of ranged strings; turns are a sequence that loops
// range over, one of which keeps windows in a map, and another one is continued by its label
// from the loop over the marks within it; bars grow by a closure that calls itself; the common
// divisor is a generic function on what is an integer.
func TestSwingWays(t *testing.T) {
	files := filesOf(t, "swing")
	yields, unions := map[string]bool{}, map[string]bool{}
	got := map[string]bool{}
	each(files, func(n ast.Node) {
		switch x := n.(type) {
		case *ast.TypeSpec:
			unions[x.Name.Name] = isUnion(x.Type)
		case *ast.FuncDecl:
			results := x.Type.Results
			yields[x.Name.Name] = results != nil && baseOfList(results.List[0].Type) == "Seq2"
		}
	})
	overTurns := func(s ast.Stmt) bool {
		r, ok := s.(*ast.RangeStmt)
		return ok && base(callee(r.X)) == "turns" && yields["turns"]
	}
	each(files, func(n ast.Node) {
		switch x := n.(type) {
		case *ast.FuncDecl:
			got["range-string"] = got["range-string"] || rangesOverText(x)
			got["generic-function"] = got["generic-function"] || x.Type.TypeParams != nil && unions[base(x.Type.TypeParams.List[0].Type)]
			got["map"] = got["map"] || makesSet(x) && ranges(x, overTurns)
		case *ast.RangeStmt:
			got["range-function"] = got["range-function"] || overTurns(x)
		case *ast.LabeledStmt:
			got["label"] = got["label"] || overTurns(x.Stmt) && continuesFromWithin(x.Stmt.(*ast.RangeStmt), x.Label.Name)
		case *ast.AssignStmt:
			got["closure"] = got["closure"] || callsItself(x)
		}
	})
	for _, way := range []string{"range-string", "range-function", "closure", "map", "label", "generic-function"} {
		if !got[way] {
			t.Errorf("no %s where the chapter asks for it", way)
		}
	}
}

// isUnion reports whether a type is an interface of several types.
func isUnion(e ast.Expr) bool {
	i, ok := e.(*ast.InterfaceType)
	if !ok || len(i.Methods.List) != 1 {
		return false
	}
	_, several := i.Methods.List[0].Type.(*ast.BinaryExpr)
	return several
}

// ranges reports whether one of a function's statements is a loop of some kind.
func ranges(f *ast.FuncDecl, is func(ast.Stmt) bool) bool {
	ranges := false
	ast.Inspect(f.Body, func(n ast.Node) bool {
		s, ok := n.(ast.Stmt)
		ranges = ranges || ok && is(s)
		return true
	})
	return ranges
}

// rangesOverText reports whether a function reads the runes of a string that is an argument.
func rangesOverText(f *ast.FuncDecl) bool {
	texts := map[string]bool{}
	for _, p := range f.Type.Params.List {
		for _, name := range p.Names {
			texts[name.Name] = base(p.Type) == "string"
		}
	}
	return ranges(f, func(s ast.Stmt) bool {
		r, ok := s.(*ast.RangeStmt)
		return ok && texts[base(r.X)] && r.Value != nil
	})
}

// makesSet reports whether a function makes a map of strings.
func makesSet(f *ast.FuncDecl) bool {
	makes := false
	ast.Inspect(f.Body, func(n ast.Node) bool {
		m, ok := n.(*ast.MapType)
		makes = makes || ok && base(m.Key) == "string"
		return true
	})
	return makes
}
