package language

import (
	"go/ast"
	"go/token"
	"testing"
)

// Ways of layer 14: what lines tell is an interface, met by four kinds, through which a book
// does and undoes them; a type switch, which the undoing asks, tells what got serials; commands
// are a table that is filled before main, and over which a loop looks for a word; words are
// checked by a range over a string; rings are a sequence that a loop walks.
func TestLogbookWays(t *testing.T) {
	files := filesOf(t, "logbook")
	methods, kinds := map[string]bool{}, map[string]int{}
	switches, yields, filled := map[string]bool{}, map[string]bool{}, map[string]bool{}
	each(files, func(n ast.Node) {
		switch x := n.(type) {
		case *ast.TypeSpec:
			if i, ok := x.Type.(*ast.InterfaceType); ok && x.Name.Name == "told" {
				for _, m := range i.Methods.List {
					methods[m.Names[0].Name] = true
				}
			}
		case *ast.FuncDecl:
			switches[x.Name.Name] = switchesTypes(x)
			results := x.Type.Results
			yields[x.Name.Name] = results != nil && base(results.List[0].Type) == "Seq"
		case *ast.GenDecl:
			for _, name := range filledBeforeMain(x) {
				filled[name] = true
			}
		}
	})
	calls := func(f *ast.FuncDecl, method string) bool {
		return base(f.Recv.List[0].Type) == "Book" && methods[method] && callsOne(f, map[string]bool{method: true})
	}
	got, done, undone := map[string]bool{}, false, false
	each(files, func(n ast.Node) {
		switch x := n.(type) {
		case *ast.FuncDecl:
			got["range-string"] = got["range-string"] || rangesOverText(x)
			if x.Recv == nil {
				return
			}
			if methods[x.Name.Name] {
				kinds[base(x.Recv.List[0].Type)]++
			}
			done = done || calls(x, "do")
			undone = undone || calls(x, "undo")
			got["type-switch"] = got["type-switch"] || calls(x, "undo") && callsOne(x, switches)
		case *ast.RangeStmt:
			got["start-up"] = got["start-up"] || filled[base(x.X)]
			got["range-function"] = got["range-function"] || yields[base(callee(x.X))]
		}
	})
	got["interface-call"] = done && undone
	met := 0
	for _, n := range kinds {
		if n == len(methods) {
			met++
		}
	}
	got["interface"] = met == 4
	for _, way := range []string{"interface", "interface-call", "type-switch", "start-up", "range-string", "range-function"} {
		if !got[way] {
			t.Errorf("no %s where the chapter asks for it", way)
		}
	}
}

// filledBeforeMain returns the variables that calls initialize, but for errors.
func filledBeforeMain(g *ast.GenDecl) []string {
	var names []string
	for _, s := range g.Specs {
		v, ok := s.(*ast.ValueSpec)
		if !ok || g.Tok != token.VAR {
			continue
		}
		for i, value := range v.Values {
			c, call := value.(*ast.CallExpr)
			if !call {
				continue
			}
			if s, ok := c.Fun.(*ast.SelectorExpr); ok && base(s.X) == "errors" && s.Sel.Name == "New" {
				continue
			}
			names = append(names, v.Names[i].Name)
		}
	}
	return names
}

// Only the ways of layer 14 ask for start-up code: no other variable of a package is filled by
// a call, and there is no func init.
func TestStartUp(t *testing.T) {
	for _, s := range sources(t) {
		for _, d := range s.file.Decls {
			switch x := d.(type) {
			case *ast.GenDecl:
				for _, name := range filledBeforeMain(x) {
					if s.file.Name.Name != "logbook" || name != "commands" {
						t.Errorf("%s fills %s before main", s.path, name)
					}
				}
			case *ast.FuncDecl:
				if x.Recv == nil && x.Name.Name == "init" {
					t.Errorf("%s has a func init", s.path)
				}
			}
		}
	}
}

// Rule 3b: the commands are a literal in a function. It fills the variable commands, and Do, Run
// and Read call it too; the variable stays beside it, and is read for them.
func TestCommands(t *testing.T) {
	files := filesOf(t, "logbook")
	maker := ""
	each(files, func(n ast.Node) {
		if v, ok := n.(*ast.ValueSpec); ok && v.Names[0].Name == "commands" {
			maker = base(callee(v.Values[0]))
		}
	})
	each(files, func(n ast.Node) {
		if f, ok := n.(*ast.FuncDecl); ok && f.Name.Name == maker && !returnsLiteral(f) {
			t.Errorf("%s does more than to return a literal", maker)
		}
	})
	for _, name := range []string{"Do", "Run", "Read"} {
		used := map[string]bool{}
		use(files, name, used)
		if maker == "" || !used[maker] || !used["commands"] {
			t.Errorf("%s uses %q: %v, commands: %v", name, maker, used[maker], used["commands"])
		}
	}
}

// returnsLiteral reports whether all that a function does is to return a literal without calls.
func returnsLiteral(f *ast.FuncDecl) bool {
	r, ok := f.Body.List[0].(*ast.ReturnStmt)
	if !ok || len(r.Results) != 1 {
		return false
	}
	_, literal := r.Results[0].(*ast.CompositeLit)
	ast.Inspect(r, func(n ast.Node) bool {
		_, call := n.(*ast.CallExpr)
		literal = literal && !call
		return true
	})
	return literal
}

// use adds all names in a function, and in the functions with these names, to those used.
func use(files []*ast.File, function string, used map[string]bool) {
	each(files, func(n ast.Node) {
		f, ok := n.(*ast.FuncDecl)
		if !ok || f.Name.Name != function {
			return
		}
		ast.Inspect(f.Body, func(n ast.Node) bool {
			if i, ok := n.(*ast.Ident); ok && !used[i.Name] {
				used[i.Name] = true
				use(files, i.Name, used)
			}
			return true
		})
	})
}
