// Package rules has no code but tests: of what the language of the program leaves out, and of which layer calls which.
package rules

import (
	"bytes"
	"go/ast"
	"go/format"
	"go/parser"
	"go/token"
	"go/types"
	"os"
	"path/filepath"
	"slices"
	"strconv"
	"strings"
	"testing"
)

// mostLines is how many lines a function may have: "some 60".
const mostLines = 64

const module = "quadrille/"

// calls answers the layers, and which ones below each of them calls beside api.
func calls() map[string][]string {
	return map[string][]string{
		"ink":     {},
		"knot":    {},
		"cap":     {},
		"note":    {"ink", "knot"},
		"slab":    {},
		"block":   {"knot", "slab"},
		"scroll":  {"ink", "slab", "block"},
		"image":   {"slab", "block"},
		"air":     {},
		"talk":    {},
		"prio":    {},
		"rows":    {},
		"shuffle": {"rows"},
		"plan":    {"cap"},
		"victim":  {"rows"},
		"jobs":    {"ink", "note"},
		"hand":    {"ink", "cap", "note", "talk"},
		"lease":   {"cap"},
		"brain":   {"cap", "prio", "rows", "shuffle", "plan", "victim"},
		"desk":    {"ink", "cap", "note", "slab", "scroll", "image", "talk", "jobs", "lease", "brain"},
		"yard":    {"note", "slab", "air", "hand", "desk"},
		"shell":   {"note", "brain", "desk", "yard"},
	}
}

// library answers the packages of the library that the program may import.
func library() []string {
	return []string{
		"bytes", "cmp", "container/heap", "errors", "iter", "maps", "math", "math/bits", "slices", "sort",
		"strconv", "strings", "sync", "sync/atomic", "unicode", "unicode/utf8",
	}
}

// source is a file of the program.
type source struct {
	path string
	text []byte
	file *ast.File
	set  *token.FileSet
}

// sources answers the program's files in the folder of a layer, tests left out.
func sources(t *testing.T, layer string) []source {
	t.Helper()
	entries, err := os.ReadDir(filepath.Join("..", layer))
	if err != nil {
		t.Fatal(err)
	}
	var l []source
	for _, entry := range entries {
		path := filepath.Join("..", layer, entry.Name())
		if !strings.HasSuffix(path, ".go") {
			t.Errorf("%s: is no Go file", path)
			continue
		}
		if strings.HasSuffix(path, "_test.go") {
			continue
		}
		text, err := os.ReadFile(path)
		if err != nil {
			t.Fatal(err)
		}
		set := token.NewFileSet()
		file, err := parser.ParseFile(set, path, text, parser.ParseComments)
		if err != nil {
			t.Fatal(err)
		}
		l = append(l, source{path, text, file, set})
	}
	if len(l) == 0 {
		t.Errorf("%s: has no files", layer)
	}
	return l
}

// each has every file of every layer looked at.
func each(t *testing.T, look func(layer string, s source)) {
	t.Helper()
	for layer := range calls() {
		for _, s := range sources(t, layer) {
			look(layer, s)
		}
	}
}

func TestImports(t *testing.T) {
	each(t, func(layer string, s source) {
		for _, spec := range s.file.Imports {
			path, err := strconv.Unquote(spec.Path.Value)
			if err != nil {
				t.Fatal(err)
			}
			own, ours := strings.CutPrefix(path, module)
			_, isLayer := calls()[own]
			switch {
			case spec.Name != nil:
				t.Errorf("%s: %s goes by another name", s.path, path)
			case ours && isLayer && !slices.Contains(calls()[layer], own):
				t.Errorf("%s: layer %s doesn't call %s", s.path, layer, own)
			case !ours && !slices.Contains(library(), path):
				t.Errorf("%s: imports %s", s.path, path)
			}
		}
	})
}

func TestNoDirectives(t *testing.T) {
	each(t, func(_ string, s source) {
		for _, group := range s.file.Comments {
			for _, c := range group.List {
				if strings.HasPrefix(c.Text, "//go:") || strings.HasPrefix(c.Text, "// +build") {
					t.Errorf("%s: %s", s.path, c.Text)
				}
			}
		}
	})
}

func TestNothingIsPrinted(t *testing.T) {
	each(t, func(_ string, s source) {
		ast.Inspect(s.file, func(n ast.Node) bool {
			if c, ok := n.(*ast.CallExpr); ok {
				if f, ok := c.Fun.(*ast.Ident); ok && (f.Name == "print" || f.Name == "println") {
					t.Errorf("%s: prints", s.path)
				}
			}
			return true
		})
	})
}

func TestPlainLayout(t *testing.T) {
	each(t, func(_ string, s source) {
		laid, err := format.Source(s.text)
		if err != nil {
			t.Fatal(err)
		}
		if !bytes.Equal(laid, s.text) {
			t.Errorf("%s: isn't laid out as gofmt does it", s.path)
		}
	})
}

func TestSmallFunctions(t *testing.T) {
	each(t, func(_ string, s source) {
		for _, d := range s.file.Decls {
			f, ok := d.(*ast.FuncDecl)
			if !ok {
				continue
			}
			if n := s.set.Position(f.End()).Line - s.set.Position(f.Pos()).Line + 1; n > mostLines {
				t.Errorf("%s: %s has %d lines", s.path, f.Name.Name, n)
			}
		}
	})
}

// TestAtPackageLevel: no map, function, float or call stands there, but errors.New.
func TestAtPackageLevel(t *testing.T) {
	each(t, func(_ string, s source) {
		for _, d := range s.file.Decls {
			g, ok := d.(*ast.GenDecl)
			if !ok || g.Tok != token.VAR {
				continue
			}
			for _, spec := range g.Specs {
				v := spec.(*ast.ValueSpec)
				if len(v.Values) != len(v.Names) {
					t.Errorf("%s: %s has no value of its own", s.path, v.Names[0].Name)
				}
				for _, x := range v.Values {
					if !plain(x) {
						t.Errorf("%s: %s isn't a short table of literals, or an error", s.path, v.Names[0].Name)
					}
				}
			}
		}
	})
}

// plain answers whether x may stand at package level, as far as its text shows it.
func plain(x ast.Expr) bool {
	ok := true
	ast.Inspect(x, func(n ast.Node) bool {
		switch y := n.(type) {
		case *ast.CallExpr:
			ok = ok && types.ExprString(y.Fun) == "errors.New"
		case *ast.MapType, *ast.FuncLit, *ast.FuncType:
			ok = false
		case *ast.UnaryExpr:
			ok = ok && y.Op != token.AND
		case *ast.BasicLit:
			ok = ok && y.Kind != token.FLOAT && y.Kind != token.IMAG
		}
		return true
	})
	return ok
}
