// Package language tests the source text of the program: the language that it keeps
// to, the ways that the document asks for, and the terms of package api.
package language

import (
	"bytes"
	"go/ast"
	"go/format"
	"go/parser"
	"go/token"
	"io/fs"
	"os"
	"path/filepath"
	"strconv"
	"strings"
	"testing"

	"agonic/api"
)

// The packages of the library that the program may import, and how long a function may be.
const (
	allowed  = " bytes cmp container/heap errors iter maps math math/bits slices sort strconv strings sync sync/atomic unicode unicode/utf8 "
	mostLine = 60
)

type source struct {
	path string
	text []byte
	set  *token.FileSet
	file *ast.File
}

// sources returns the files of the program, without tests.
func sources(t *testing.T) []source {
	t.Helper()
	var out []source
	err := filepath.WalkDir("..", func(path string, d fs.DirEntry, err error) error {
		if err != nil {
			return err
		}
		if d.IsDir() && (d.Name() == "sharedtests" || d.Name() == ".git") {
			return filepath.SkipDir
		}
		if !strings.HasSuffix(path, ".go") || strings.HasSuffix(path, "_test.go") {
			return nil
		}
		s := source{path: path, set: token.NewFileSet()}
		if s.text, err = os.ReadFile(path); err != nil {
			return err
		}
		s.file, err = parser.ParseFile(s.set, path, s.text, parser.ParseComments)
		out = append(out, s)
		return err
	})
	if err != nil || len(out) < 15 {
		t.Fatalf("%d files, %v", len(out), err)
	}
	return out
}

func TestImports(t *testing.T) {
	for _, s := range sources(t) {
		for _, i := range s.file.Imports {
			path, _ := strconv.Unquote(i.Path.Value)
			if !strings.HasPrefix(path, "agonic/") && !strings.Contains(allowed, " "+path+" ") {
				t.Errorf("%s imports %s", s.path, path)
			}
		}
	}
}

// calls returns the layers that a layer may call, for each layer.
func calls() map[string]string {
	out := map[string]string{"logbook": " pillar "}
	for _, layer := range strings.Fields("pillar baseline total wave card magnet chart period ore keys neutral rank swing") {
		out[layer] = ""
	}
	return out
}

func TestLayers(t *testing.T) {
	layers := calls()
	for _, s := range sources(t) {
		layer := filepath.Base(filepath.Dir(s.path))
		for _, i := range s.file.Imports {
			path, _ := strconv.Unquote(i.Path.Value)
			other := strings.TrimPrefix(path, "agonic/")
			_, known := layers[layer]
			_, called := layers[other]
			if known && called && !strings.Contains(layers[layer], " "+other+" ") {
				t.Errorf("%s imports %s", s.path, path)
			}
		}
	}
}

func TestLayout(t *testing.T) {
	for _, s := range sources(t) {
		if neat, err := format.Source(s.text); err != nil || !bytes.Equal(neat, s.text) {
			t.Errorf("%s is not in gofmt's layout: %v", s.path, err)
		}
		for _, c := range s.file.Comments {
			for _, line := range c.List {
				if strings.HasPrefix(line.Text, "//go:") || strings.HasPrefix(line.Text, "// +build") {
					t.Errorf("%s: %s", s.path, line.Text)
				}
			}
		}
		for _, d := range s.file.Decls {
			f, ok := d.(*ast.FuncDecl)
			if !ok {
				continue
			}
			if n := s.set.Position(f.End()).Line - s.set.Position(f.Pos()).Line + 1; n > mostLine {
				t.Errorf("%s: %s has %d lines", s.path, f.Name.Name, n)
			}
		}
	}
}

// Nothing is carried from one call to another: there are no variables of a package
// but tables and errors, whose values are written out.
func TestVariables(t *testing.T) {
	for _, s := range sources(t) {
		for _, d := range s.file.Decls {
			g, ok := d.(*ast.GenDecl)
			if !ok || g.Tok != token.VAR {
				continue
			}
			for _, v := range g.Specs {
				if len(v.(*ast.ValueSpec).Values) == 0 {
					t.Errorf("%s: a variable without a value", s.path)
				}
			}
		}
	}
}

// Terms: the limits and errors that all layers share.
func TestTerms(t *testing.T) {
	if api.MaxName != 6 || api.MaxText != 16000 || api.Turn != 3600 || api.Never != 1<<50 {
		t.Error("limits")
	}
	for i, e := range []api.Errno{api.OK, api.ErrRange, api.ErrEmpty, api.ErrMany, api.ErrShape, api.ErrOrder, api.ErrNone, api.ErrTwice, api.ErrName, api.ErrForm, api.ErrKind, api.ErrNil, api.ErrProof, api.ErrClash, api.ErrLost, api.ErrFlat, api.ErrOver, api.ErrFull, api.ErrSum, api.ErrTorn, api.ErrLong, api.ErrFold, api.ErrShut} {
		if int(e) != i {
			t.Errorf("error %d has the code %d", i, e)
		}
	}
}
