// Package rules holds the tests that look at the program's text: which packages a layer may call, and what may stand at package level.
package rules

import (
	"bytes"
	"go/ast"
	"go/format"
	"go/parser"
	"go/token"
	"os"
	"path/filepath"
	"strings"
	"testing"
)

const (
	root     = ".."
	module   = "estuary/"
	maxLines = 60
)

// layers are in their order, with what all share at its head: each may call those ahead of it.
func layers() []string {
	return strings.Fields("api words places digest wire value edit update dag commit orphans regs seq tree marks doc way eval render replica history patch draft undo bloom parley pack journal keys policy gossip shell")
}

func library() []string {
	return strings.Fields("bytes cmp container/heap errors iter maps math math/big math/bits slices sort strconv strings sync sync/atomic unicode unicode/utf8")
}

func number(l []string, s string) int {
	for i, x := range l {
		if x == s {
			return i
		}
	}
	return -1
}

// eachFile hands over each file of a layer that is no test.
func eachFile(t *testing.T, look func(layer, name string, text []byte, set *token.FileSet, file *ast.File)) {
	t.Helper()
	for _, layer := range layers() {
		names, err := filepath.Glob(filepath.Join(root, layer, "*"))
		if err != nil || len(names) == 0 {
			t.Errorf("%s: no files", layer)
		}
		for _, name := range names {
			if strings.HasSuffix(name, "_test.go") {
				continue
			}
			text, err := os.ReadFile(name)
			if err != nil {
				t.Fatal(err)
			}
			set := token.NewFileSet()
			file, err := parser.ParseFile(set, name, text, parser.ParseComments)
			if err != nil {
				t.Fatalf("a file that is no Go: %v", err)
			}
			look(layer, name, text, set, file)
		}
	}
}

func TestImports(t *testing.T) {
	eachFile(t, func(layer, name string, _ []byte, _ *token.FileSet, file *ast.File) {
		for _, spec := range file.Imports {
			path := strings.Trim(spec.Path.Value, `"`)
			own, ours := strings.CutPrefix(path, module)
			if !ours && number(library(), path) < 0 {
				t.Errorf("%s imports %s, which no layer may", name, path)
			}
			if at := number(layers(), own); ours && (at < 0 || at >= number(layers(), layer)) {
				t.Errorf("%s imports %s, which is not ahead of it", name, path)
			}
		}
	})
}

func TestLayout(t *testing.T) {
	eachFile(t, func(_, name string, text []byte, set *token.FileSet, file *ast.File) {
		if laid, err := format.Source(text); err != nil || !bytes.Equal(laid, text) {
			t.Errorf("%s is not laid out by gofmt", name)
		}
		for _, d := range file.Decls {
			f, ok := d.(*ast.FuncDecl)
			if ok && set.Position(f.End()).Line-set.Position(f.Pos()).Line >= maxLines {
				t.Errorf("%s: %s is too long", name, f.Name.Name)
			}
		}
		for _, group := range file.Comments {
			for _, c := range group.List {
				if strings.HasPrefix(c.Text, "//go:") || strings.HasPrefix(c.Text, "// +build") {
					t.Errorf("%s: %s", name, c.Text)
				}
			}
		}
	})
}

func TestPackageLevel(t *testing.T) {
	eachFile(t, func(_, name string, _ []byte, _ *token.FileSet, file *ast.File) {
		for _, d := range file.Decls {
			g, ok := d.(*ast.GenDecl)
			if !ok || g.Tok != token.VAR {
				continue
			}
			for _, s := range g.Specs {
				v := s.(*ast.ValueSpec)
				if len(v.Values) != len(v.Names) {
					t.Errorf("%s: %s has no value of its own", name, v.Names[0].Name)
				}
				for _, x := range v.Values {
					checkStart(t, name, v.Names[0].Name, x)
				}
			}
		}
	})
}

// checkStart: a starting value is written out, or an error made by errors.New.
func checkStart(t *testing.T, file, name string, x ast.Expr) {
	t.Helper()
	ast.Inspect(x, func(n ast.Node) bool {
		switch y := n.(type) {
		case *ast.MapType, *ast.FuncLit, *ast.FuncType:
			t.Errorf("%s: %s may not stand at package level", file, name)
		case *ast.CallExpr:
			f, ok := y.Fun.(*ast.SelectorExpr)
			if !ok || f.Sel.Name != "New" {
				t.Errorf("%s: %s is made by a call", file, name)
			}
		}
		return true
	})
}
