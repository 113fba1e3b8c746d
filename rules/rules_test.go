// Package rules holds the program's files against the language that it is to keep to.
package rules

import (
	"bytes"
	"go/ast"
	"go/format"
	"go/parser"
	"go/token"
	"io/fs"
	"os"
	"path/filepath"
	"slices"
	"strconv"
	"strings"
	"testing"
)

const root = ".."

// mostLines is how long a function may be.
const mostLines = 60

// layers are the layers' packages, from the lowest on.
var layers = []string{
	"api", "fixed", "wire", "cell", "grid", "occupy", "class", "clear", "parts", "heap", "route",
	"cluster", "portal", "abstract", "hier", "smooth", "cache", "slots", "assign", "settle", "order",
	"unit", "reserve", "decide", "command", "sim", "codec", "digest", "log", "session", "console",
}

// library is the packages of Go's library that the program may import.
var library = []string{
	"bytes", "cmp", "container/heap", "errors", "iter", "maps", "math", "math/bits", "slices", "sort",
	"strconv", "strings", "sync", "sync/atomic", "unicode", "unicode/utf8",
}

// source is one of the program's files.
type source struct {
	path string // from the root on
	text []byte
	tree *ast.File
	set  *token.FileSet
}

// line is where something stands.
func (s source) line(p token.Pos) string {
	return s.path + ":" + strconv.Itoa(s.set.Position(p).Line)
}

// folder is the package's.
func (s source) folder() string { return filepath.ToSlash(filepath.Dir(s.path)) }

// files are all files of the project's packages, by their paths from the root on.
func files(t *testing.T) []string {
	t.Helper()
	var l []string
	err := filepath.WalkDir(root, func(path string, d fs.DirEntry, err error) error {
		if err != nil {
			return err
		}
		name, _ := filepath.Rel(root, path)
		if d.IsDir() {
			// Neither the store of versions, nor the tests that are laid beside the project, are of the program.
			if name != "." && (strings.HasPrefix(d.Name(), ".") || name == "sharedtests") {
				return filepath.SkipDir
			}
			return nil
		}
		l = append(l, name)
		return nil
	})
	if err != nil {
		t.Fatal(err)
	}
	return l
}

// sources are the program's Go files, without tests, which may use all of Go.
func sources(t *testing.T) []source {
	t.Helper()
	var l []source
	for _, name := range files(t) {
		if !strings.HasSuffix(name, ".go") || strings.HasSuffix(name, "_test.go") {
			continue
		}
		text, err := os.ReadFile(filepath.Join(root, name))
		if err != nil {
			t.Fatal(err)
		}
		set := token.NewFileSet()
		tree, err := parser.ParseFile(set, name, text, parser.ParseComments)
		if err != nil {
			t.Fatal(err)
		}
		l = append(l, source{name, text, tree, set})
	}
	if len(l) < len(layers) {
		t.Fatalf("%d files, want %d packages at least", len(l), len(layers))
	}
	return l
}

func TestOnlyGoFiles(t *testing.T) {
	for _, name := range files(t) {
		// A test's own data are no files of the program.
		if strings.Contains(name, string(filepath.Separator)) && !strings.HasSuffix(name, ".go") && !strings.Contains(name, "testdata") {
			t.Errorf("%s is no Go file", name)
		}
	}
}

func TestImports(t *testing.T) {
	for _, s := range sources(t) {
		for _, i := range s.tree.Imports {
			path, _ := strconv.Unquote(i.Path.Value)
			own, isOwn := strings.CutPrefix(path, "phalanx/")
			if !isOwn && !slices.Contains(library, path) {
				t.Errorf("%s imports %s", s.line(i.Pos()), path)
			}
			from, to := slices.Index(layers, s.folder()), slices.Index(layers, own)
			if isOwn && from >= 0 && to >= from {
				t.Errorf("%s imports %s, which is not below it", s.line(i.Pos()), path)
			}
		}
	}
}

func TestCallsThatAreRuledOut(t *testing.T) {
	most := map[string][]string{
		"sync": {"Mutex", "RWMutex", "WaitGroup", "Once"},
		"iter": {"Seq", "Seq2"},
	}
	for _, s := range sources(t) {
		ast.Inspect(s.tree, func(n ast.Node) bool {
			sel, ok := n.(*ast.SelectorExpr)
			if !ok {
				return true
			}
			if of, ok := sel.X.(*ast.Ident); ok && of.Obj == nil {
				if allowed, held := most[of.Name]; held && !slices.Contains(allowed, sel.Sel.Name) {
					t.Errorf("%s: %s.%s", s.line(sel.Pos()), of.Name, sel.Sel.Name)
				}
			}
			return true
		})
	}
}

func TestNoDirectives(t *testing.T) {
	for _, s := range sources(t) {
		for _, g := range s.tree.Comments {
			for _, c := range g.List {
				if strings.HasPrefix(c.Text, "//go:") || strings.HasPrefix(c.Text, "// +build") {
					t.Errorf("%s: %s", s.line(c.Pos()), c.Text)
				}
			}
		}
	}
}

func TestLayout(t *testing.T) {
	for _, s := range sources(t) {
		neat, err := format.Source(s.text)
		if err != nil || !bytes.Equal(neat, s.text) {
			t.Errorf("%s is not laid out by gofmt", s.path)
		}
	}
}

func TestShortFunctions(t *testing.T) {
	for _, s := range sources(t) {
		for _, d := range s.tree.Decls {
			f, ok := d.(*ast.FuncDecl)
			if !ok {
				continue
			}
			if n := s.set.Position(f.End()).Line - s.set.Position(f.Pos()).Line + 1; n > mostLines {
				t.Errorf("%s: %s has %d lines", s.line(f.Pos()), f.Name.Name, n)
			}
			if f.Name.Name == "init" && f.Recv == nil {
				t.Errorf("%s: init", s.line(f.Pos()))
			}
		}
	}
}

// TestPackageLevel lets stand at package level only values that are written out, and errors made by errors.New.
func TestPackageLevel(t *testing.T) {
	for _, s := range sources(t) {
		for _, d := range s.tree.Decls {
			g, ok := d.(*ast.GenDecl)
			if !ok || g.Tok != token.VAR {
				continue
			}
			for _, spec := range g.Specs {
				v := spec.(*ast.ValueSpec)
				if len(v.Values) == 0 && !onlyBlank(v.Names) {
					t.Errorf("%s: a variable without a value", s.line(v.Pos()))
				}
				for _, value := range v.Values {
					checkValue(t, s, value)
				}
			}
		}
	}
}

func onlyBlank(names []*ast.Ident) bool {
	return !slices.ContainsFunc(names, func(n *ast.Ident) bool { return n.Name != "_" })
}

func checkValue(t *testing.T, s source, value ast.Expr) {
	t.Helper()
	if c, ok := value.(*ast.CallExpr); ok {
		if f, ok := c.Fun.(*ast.SelectorExpr); ok {
			if of, ok := f.X.(*ast.Ident); ok && of.Name == "errors" && f.Sel.Name == "New" {
				return
			}
		}
	}
	ast.Inspect(value, func(n ast.Node) bool {
		switch n.(type) {
		case *ast.CallExpr, *ast.FuncLit, *ast.MapType:
			t.Errorf("%s: a call, a function or a map at package level", s.line(n.Pos()))
			return false
		}
		return true
	})
}
