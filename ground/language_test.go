package ground

import (
	"bytes"
	"go/ast"
	"go/format"
	"go/parser"
	"go/token"
	"os"
	"path/filepath"
	"slices"
	"strconv"
	"strings"
	"testing"
)

// chapters has the packages in the order of the document's chapters.
var chapters = strings.Fields(`num raster affine path conic region morph fill stroke dash curve grid refspace profile inverse gamut spot overprint
	inklimit devicelink condition blend gradient image compose list flat render trap pull tally token object filter pagefile salvage font para content
	prepress bitmap screen halftone diffuse rangecoder bilevel platefile density sheet strip press control proof reedsolomon linear matrix camera fold
	impose bindery bind cut gang plan paper ticket spool vary collate archive works desk`)

// library has the permitted packages of the standard library.
var library = strings.Fields(`bytes cmp container/heap errors iter maps math math/bits slices sort strconv strings sync sync/atomic unicode unicode/utf8`)

const (
	modulePath = "printworks"
	mostLines  = 60 // of a function
)

// source is a parsed file of the program.
type source struct {
	folder, path string
	text         []byte
	set          *token.FileSet
	tree         *ast.File
}

// programFiles returns the program's files, without tests.
func programFiles(t *testing.T) []source {
	t.Helper()
	paths, err := filepath.Glob("../*/*.go")
	if err != nil {
		t.Fatal(err)
	}
	var files []source
	for _, path := range paths {
		if !strings.HasSuffix(path, "_test.go") {
			files = append(files, parse(t, path))
		}
	}
	return files
}

func parse(t *testing.T, path string) source {
	t.Helper()
	text, err := os.ReadFile(path)
	if err != nil {
		t.Fatal(err)
	}
	set := token.NewFileSet()
	tree, err := parser.ParseFile(set, path, text, parser.ParseComments|parser.SkipObjectResolution)
	if err != nil {
		t.Fatal(err)
	}
	return source{filepath.Base(filepath.Dir(path)), path, text, set, tree}
}

func TestOnePackageForEachChapter(t *testing.T) {
	if len(chapters) != 72 {
		t.Fatal(len(chapters))
	}
	names := map[string]string{}
	for _, file := range programFiles(t) {
		names[file.folder] = file.tree.Name.Name
	}
	for _, name := range append([]string{"api"}, chapters...) {
		if names[name] != name {
			t.Errorf("the folder %s has the package %q", name, names[name])
		}
	}
}

func TestImports(t *testing.T) {
	for _, file := range programFiles(t) {
		for _, spec := range file.tree.Imports {
			path, err := strconv.Unquote(spec.Path.Value)
			if err != nil {
				t.Fatal(err)
			}
			if !mayImport(file.folder, path) {
				t.Errorf("%s imports %s", file.path, path)
			}
		}
	}
}

// mayImport tells whether the package may import the path: a package of a chapter may not import that of a later one.
func mayImport(name, path string) bool {
	own, inModule := strings.CutPrefix(path, modulePath+"/")
	if !inModule {
		return slices.Contains(library, path)
	}
	from, to := slices.Index(chapters, name), slices.Index(chapters, own)
	return own == "api" || from < 0 || to < from
}

func TestMayImport(t *testing.T) {
	for _, c := range []struct {
		name, path string
		want       bool
	}{
		{"num", "printworks/api", true}, {"raster", "printworks/num", true}, {"num", "printworks/raster", false}, {"num", "printworks/num", false},
		{"num", "math/bits", true}, {"num", "fmt", false}, {"num", "unsafe", false}, {"num", "os", false}, {"num", "example.org/num", false},
	} {
		if got := mayImport(c.name, c.path); got != c.want {
			t.Error(c, got)
		}
	}
}

func TestLayoutAndDirectives(t *testing.T) {
	for _, file := range programFiles(t) {
		if text, err := format.Source(file.text); err != nil || !bytes.Equal(text, file.text) {
			t.Errorf("%s has not gofmt's layout", file.path)
		}
		for _, group := range file.tree.Comments {
			for _, comment := range group.List {
				if strings.HasPrefix(comment.Text, "//go:") || strings.HasPrefix(comment.Text, "// +build") {
					t.Errorf("%s has %s", file.path, comment.Text)
				}
			}
		}
	}
}

func TestSmallFunctions(t *testing.T) {
	for _, file := range programFiles(t) {
		for _, declared := range file.tree.Decls {
			function, ok := declared.(*ast.FuncDecl)
			if !ok {
				continue
			}
			lines := file.set.Position(function.End()).Line - file.set.Position(function.Pos()).Line + 1
			if lines > mostLines {
				t.Errorf("%s: %s has %d lines", file.path, function.Name.Name, lines)
			}
		}
	}
}

func TestOnlyGoFilesInPackages(t *testing.T) {
	for _, name := range append([]string{"api"}, chapters...) {
		entries, err := os.ReadDir(filepath.Join("..", name))
		if err != nil {
			t.Error(err)
		}
		for _, entry := range entries {
			if !entry.IsDir() && !strings.HasSuffix(entry.Name(), ".go") {
				t.Errorf("%s has the file %s", name, entry.Name())
			}
		}
	}
}
