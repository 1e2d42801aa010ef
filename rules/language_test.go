package rules

// language_test.go: what of LANGUAGE.md, and of DOC.md's map, can be read off the program's text.

import (
	"bytes"
	"go/ast"
	"go/format"
	"go/parser"
	"go/token"
	"maps"
	"os"
	"path/filepath"
	"slices"
	"strconv"
	"strings"
	"testing"
)

// layers is DOC.md's map: which packages a layer calls. Any calls api.
func layers() map[string]string {
	return map[string]string{
		"cells": "", "crc": "", "sector": "", "wal": "sector", "count": "", "items": "cells count",
		"stock": "cells count items", "hold": "cells items stock", "ident": "cells crc", "ask": "cells items ident",
		"backoff": "", "link": "cells backoff", "mail": "cells items ask", "plan": "items", "saga": "cells items plan",
		"backlog": "cells", "parcel": "cells items", "goods": "count stock", "move": "cells items", "life": "saga",
		"desk": "cells ident ask mail saga backlog parcel life", "region": "cells items stock hold ask mail move",
		"node": "cells sector wal ask link mail desk region", "world": "sector ask node", "model": "items ask",
		"audit": "stock saga goods model desk region node world", "bins": "cells count items", "boxes": "items",
	}
}

// beside are the packages beside the layers, and which layers these call.
func beside() map[string]string {
	return map[string]string{"among": "", "asks": "ask", "keys": "", "lists": "", "posts": "mail"}
}

// forTests are those of them that tests, and they themselves, alone call.
func forTests() []string {
	return []string{"asks", "lists", "posts"}
}

// folders are all packages.
func folders() []string {
	return slices.Concat(slices.Collect(maps.Keys(layers())), slices.Collect(maps.Keys(beside())))
}

// library is the packages that may be imported, each with the names that may be used of it (none told: all).
func library() map[string]string {
	return map[string]string{
		"bytes": "", "cmp": "", "container/heap": "", "errors": "", "iter": "Seq Seq2", "maps": "", "math": "", "math/bits": "",
		"slices": "", "sort": "", "strconv": "", "strings": "", "sync": "Mutex RWMutex WaitGroup Once", "sync/atomic": "", "unicode": "", "unicode/utf8": "",
	}
}

type source struct {
	path string
	text []byte
	set  *token.FileSet
	file *ast.File
}

// sources are all files of the program but the given package's and tests.
func sources(t *testing.T) []source {
	t.Helper()
	var l []source
	for _, folder := range folders() {
		files, err := os.ReadDir(filepath.Join("..", folder))
		if err != nil {
			t.Fatal(err)
		}
		for _, f := range files {
			path := filepath.Join("..", folder, f.Name())
			if !strings.HasSuffix(path, ".go") {
				t.Errorf("%s is no Go file", path)
				continue
			}
			if strings.HasSuffix(path, "_test.go") {
				continue
			}
			text, err := os.ReadFile(path)
			if err != nil {
				t.Fatal(err)
			}
			set := token.NewFileSet()
			file, err := parser.ParseFile(set, path, text, parser.ParseComments)
			if err != nil {
				t.Fatal(err)
			}
			l = append(l, source{path, text, set, file})
		}
	}
	if len(l) < len(folders()) {
		t.Fatal("files are missing")
	}
	return l
}

func imported(s *ast.ImportSpec) string {
	path, _ := strconv.Unquote(s.Path.Value)
	return path
}

// LANGUAGE 1 and 2; DOC.md, the map.
func TestImports(t *testing.T) {
	calls, allowed := layers(), library()
	lowest := beside()
	for _, s := range sources(t) {
		layer := filepath.Base(filepath.Dir(s.path))
		for _, i := range s.file.Imports {
			path := imported(i)
			own, ours := strings.CutPrefix(path, "entrepot/")
			if _, ok := allowed[path]; !ok && !(ours && (own == "api" || slices.Contains(folders(), own))) {
				t.Errorf("%s imports %s", s.path, path)
			}
			_, lower := calls[own]
			if ours && lower && !slices.Contains(strings.Fields(calls[layer]+lowest[layer]), own) {
				t.Errorf("%s calls layer %s", s.path, own)
			}
			if ours && slices.Contains(forTests(), own) && !slices.Contains(forTests(), layer) {
				t.Errorf("%s calls %s, which is for tests", s.path, own)
			}
			if i.Name != nil {
				t.Errorf("%s gives %s another name", s.path, path)
			}
		}
	}
}

// LANGUAGE 1: of some packages not all.
func TestNamesOfTheLibrary(t *testing.T) {
	allowed := library()
	for _, s := range sources(t) {
		names := map[string]string{}
		for _, i := range s.file.Imports {
			names[filepath.Base(imported(i))] = allowed[imported(i)]
		}
		ast.Inspect(s.file, func(n ast.Node) bool {
			x, ok := n.(*ast.SelectorExpr)
			if !ok {
				return true
			}
			if p, ok := x.X.(*ast.Ident); ok && names[p.Name] != "" && !slices.Contains(strings.Fields(names[p.Name]), x.Sel.Name) {
				t.Errorf("%s: %s.%s", s.set.Position(x.Pos()), p.Name, x.Sel.Name)
			}
			return true
		})
	}
}

// LANGUAGE 2: no line to the compiler, no printing.
func TestNothingBesideTheLanguage(t *testing.T) {
	for _, s := range sources(t) {
		for _, group := range s.file.Comments {
			for _, c := range group.List {
				if strings.HasPrefix(c.Text, "//go:") || strings.HasPrefix(c.Text, "// +build") || strings.HasPrefix(c.Text, "//line ") {
					t.Errorf("%s: %s", s.set.Position(c.Pos()), c.Text)
				}
			}
		}
		ast.Inspect(s.file, func(n ast.Node) bool {
			if call, ok := n.(*ast.CallExpr); ok {
				if f, ok := call.Fun.(*ast.Ident); ok && (f.Name == "print" || f.Name == "println") {
					t.Errorf("%s: %s", s.set.Position(call.Pos()), f.Name)
				}
			}
			return true
		})
	}
}

// LANGUAGE 3a and 3b: a variable of a package is a short table, or an error made by errors.New.
func TestVariablesOfPackages(t *testing.T) {
	for _, s := range sources(t) {
		for _, d := range s.file.Decls {
			g, ok := d.(*ast.GenDecl)
			if !ok || g.Tok != token.VAR {
				continue
			}
			for _, spec := range g.Specs {
				v := spec.(*ast.ValueSpec)
				if len(v.Values) != len(v.Names) {
					t.Errorf("%s: a variable without a value of its own", s.set.Position(v.Pos()))
				}
				for _, x := range v.Values {
					if why := ruledOut(x); why != "" {
						t.Errorf("%s: %s", s.set.Position(x.Pos()), why)
					}
				}
			}
		}
	}
}

// ruledOut is why a starting value may not stand at package level, as far as its text tells.
func ruledOut(x ast.Expr) string {
	if call, ok := x.(*ast.CallExpr); ok {
		if f, ok := call.Fun.(*ast.SelectorExpr); ok && f.Sel.Name == "New" {
			if p, ok := f.X.(*ast.Ident); ok && p.Name == "errors" {
				return ""
			}
		}
	}
	why := ""
	ast.Inspect(x, func(n ast.Node) bool {
		switch y := n.(type) {
		case *ast.CallExpr:
			why = "a value made by a call"
		case *ast.FuncLit, *ast.FuncType:
			why = "a function"
		case *ast.MapType:
			why = "a map"
		case *ast.UnaryExpr:
			if y.Op == token.AND {
				why = "a pointer"
			}
		case *ast.BasicLit:
			if y.Kind == token.FLOAT || y.Kind == token.IMAG {
				why = "a float"
			}
		}
		return why == ""
	})
	if lit, ok := x.(*ast.BasicLit); ok && lit.Kind == token.STRING {
		why = "a text that is no constant"
	}
	return why
}

// LANGUAGE 9.
func TestFunctionsAreSmallAndLaidOut(t *testing.T) {
	for _, s := range sources(t) {
		laid, err := format.Source(s.text)
		if err != nil || !bytes.Equal(laid, s.text) {
			t.Errorf("%s is not laid out by gofmt", s.path)
		}
		for _, d := range s.file.Decls {
			if f, ok := d.(*ast.FuncDecl); ok {
				lines := s.set.Position(f.End()).Line - s.set.Position(f.Pos()).Line + 1
				if lines > 60 {
					t.Errorf("%s: %s has %d lines", s.set.Position(f.Pos()), f.Name.Name, lines)
				}
			}
		}
	}
}
